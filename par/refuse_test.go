package par_test

import (
	"math"
	"slices"
	"strings"
	"testing"

	"pedigree/api"
	"pedigree/par"
)

// wantRunCode asks for the error, beside which nothing else is told; a stop that would say no has not been asked, or what is not refused is stopped by it.
func wantRunCode(t *testing.T, rules []api.Rule, l []api.Fact, workers int, code api.Errno) {
	t.Helper()
	got, x, err := par.Run(rules, l, workers, nil)
	if err != code || err != api.OK && (len(got) != 0 || stats(x) != "0 [] 0") {
		t.Errorf("Run(%s, %s, %d) = %s, %s, %d; want %d", brief(rules), brief(l), workers, brief(show(got)), stats(x), err, code)
	}
	if code == api.OK {
		code = api.ErrStopped
	}
	s := par.NewStop(0)
	got, x, err = par.Run(rules, l, workers, s)
	if err != code || len(got) != 0 || stats(x) != "0 [] 0" || s.Stopped() != (code == api.ErrStopped) {
		t.Errorf("Run(%s, %s, %d, a stop of 0) = %s, %s, %d, stopped %v; want %d", brief(rules), brief(l), workers, brief(show(got)), stats(x), err, s.Stopped(), code)
	}
}

// wantModelCode asks for the same of Model. (A program without rules is not stopped.)
func wantModelCode(t *testing.T, rules []api.Rule, l []api.Fact, workers int, code api.Errno) {
	t.Helper()
	p := api.Program{Rules: rules}
	got, err := par.Model(p, l, workers, nil)
	if err != code || err != api.OK && len(got) != 0 {
		t.Errorf("Model(%s, %s, %d) = %s, %d; want %d", brief(rules), brief(l), workers, brief(show(got)), err, code)
	}
	if code == api.OK && len(rules) > 0 {
		code = api.ErrStopped
	}
	s := par.NewStop(0)
	got, err = par.Model(p, l, workers, s)
	if err != code || err != api.OK && len(got) != 0 || s.Stopped() != (code == api.ErrStopped) {
		t.Errorf("Model(%s, %s, %d, a stop of 0) = %s, %d, stopped %v; want %d", brief(rules), brief(l), workers, brief(show(got)), err, s.Stopped(), code)
	}
}

// noCrews are numbers of workers that may not be.
func noCrews() []int { return []int{0, 17, -1, 18, 99, -16, math.MaxInt, math.MinInt, 1 << 32} }

// P26.3, P26.5: the chapter's examples; each number of workers that may be, and such as may not.
func TestWorkers(t *testing.T) {
	rules, l := rulesOf(t, ancestors), factsOf(t, parents)
	for _, n := range noCrews() {
		wantRunCode(t, rules, l, n, api.ErrArg)
		wantRunCode(t, nil, nil, n, api.ErrArg)
		wantModelCode(t, rules, l, n, api.ErrArg)
		wantModelCode(t, nil, nil, n, api.ErrArg)
		wantModelCode(t, rulesOf(t, "p(X) :- p(X), not p(X)."), nil, n, api.ErrNegCycle)
	}
	for _, n := range crews() {
		wantRunCode(t, rules, l, n, api.OK)
		wantRunCode(t, nil, nil, n, api.OK)
		wantModelCode(t, rules, l, n, api.OK)
		wantModelCode(t, nil, nil, n, api.OK)
	}
}

// noRules are rules by hand that are none as they may be.
func noRules() []api.Rule {
	one := []api.Literal{pos("e", v("X"))}
	deep := ex(v("X"))
	for range 8 {
		deep = op(api.OpNeg, deep)
	}
	ring := make([]api.Expr, 1)
	ring[0] = op(api.OpNeg, ring...)
	return []api.Rule{
		{}, {Pred: "P"}, {Pred: "not"}, {Pred: "p q"}, {Pred: "p" + strings.Repeat("a", 120)},
		{Pred: "p", Head: head(v("_"))}, {Pred: "p", Head: head(v("x"))}, {Pred: "p", Head: head(api.Term{})}, {Pred: "p", Head: head(many(25)...)},
		{Pred: "p", Head: head(api.Term{Var: "X", Val: num(1)}), Body: one},
		{Pred: "p", Head: []api.Arg{{Agg: api.AggCount, Term: v("X")}}, Body: one},
		{Pred: "p", Head: []api.Arg{{Agg: api.AggSum}}, Body: one},
		{Pred: "p", Head: []api.Arg{{Agg: 5, Term: v("X")}}, Body: one},
		{Pred: "p", Head: []api.Arg{{Agg: -1, Term: v("X")}}, Body: one},
		{Pred: "p", Body: []api.Literal{{}}}, {Pred: "p", Body: []api.Literal{{Kind: 9}}}, {Pred: "p", Body: []api.Literal{pos("")}},
		{Pred: "p", Body: []api.Literal{pos("e", many(25)...)}}, {Pred: "p", Body: slices.Repeat([]api.Literal{pos("e")}, 17)},
		{Pred: "p", Body: []api.Literal{cmp(ex(v("_")), api.RelEq, ex(v("X")))}},
		{Pred: "p", Body: append(slices.Clone(one), cmp(deep, api.RelEq, ex(v("X"))))},
		{Pred: "p", Body: append(slices.Clone(one), cmp(ring[0], api.RelEq, ex(v("X"))))},
		{Pred: "p", Body: append(slices.Clone(one), cmp(ex(v("X")), api.RelNone, ex(v("X"))))},
		{Pred: "p", Body: append(slices.Clone(one), cmp(ex(v("X")), 7, ex(v("X"))))},
		{Pred: "p", Body: append(slices.Clone(one), cmp(op(11, ex(v("X"))), api.RelEq, ex(v("X"))))},
		{Pred: "p", Body: append(slices.Clone(one), cmp(op(api.OpAdd, ex(v("X"))), api.RelEq, ex(v("X"))))},
	}
}

// noFacts are facts by hand that are none as they may be.
func noFacts() []api.Fact {
	return []api.Fact{
		{}, {Pred: "E"}, {Pred: "max"}, {Pred: "e" + strings.Repeat("a", 120)}, wide("e", 25),
		fact("e", api.Value{}), fact("e", num(1), api.Value{Kind: 7}), fact("e", api.Value{Kind: api.KNum, Text: "a"}), fact("e", api.Value{Kind: api.KText, Num: 1}), fact("e", text(strings.Repeat("a", 201))),
	}
}

// P26.3, P26.5, R6: each error ahead of all that it stands ahead of; the number of workers comes behind all of them.
func TestErrorsInTheirOrder(t *testing.T) {
	both := func(rules []api.Rule, l []api.Fact, code api.Errno) {
		t.Helper()
		for _, n := range []int{3, 0, 17} {
			wantRunCode(t, rules, l, n, code)
			wantModelCode(t, rules, l, n, code)
		}
	}
	good, unsafe, aggregate, cycle := "p(X) :- e(X). ", "p(Y) :- e(X). ", "c(count()) :- c(X). ", "w(X) :- e(X), not w(X). "
	one, two, bad := nums("e", 1), nums("e", 1, 2), fact("E")
	for _, l := range [][]api.Fact{nil, {one}, {bad}, {one, two}, {one, two, bad}} {
		for _, r := range noRules() {
			both([]api.Rule{r}, l, api.ErrTerm)
			both(slices.Concat(rulesOf(t, good+aggregate+cycle), []api.Rule{r}, rulesOf(t, unsafe)), l, api.ErrTerm)
			both(slices.Concat(rulesOf(t, good+unsafe), []api.Rule{r}), l, api.ErrSafe)
		}
		for _, source := range []string{unsafe, "p(X) :- not e(X).", "p(X).", "p :- X < 1.", "p :- X = Y, Y = X.", "p(sum(Y)) :- e(X).", good + aggregate + cycle + unsafe} {
			both(rulesOf(t, source), l, api.ErrSafe)
		}
	}
	for _, f := range noFacts() {
		for _, source := range []string{"", good, aggregate, cycle, "p(X) :- e(X, X), not e(X).", good + "p(1, 2)."} {
			both(rulesOf(t, source), []api.Fact{f}, api.ErrValue)
			both(rulesOf(t, source), []api.Fact{one, two, f, one}, api.ErrValue)
		}
	}
	for _, source := range []string{"", good, aggregate, cycle} {
		both(rulesOf(t, source), []api.Fact{one, two}, api.ErrArity)
		both(rulesOf(t, source), []api.Fact{nums("z"), one, nums("z", 1)}, api.ErrArity)
	}
	for _, source := range []string{"p(X) :- e(X, X), not e(X).", "p(X) :- p(X, X).", "p(count()) :- p(X), p(X, X).", good + "e(1, 2).", "f :- not f(1).", aggregate + "c(1, 2)."} {
		both(rulesOf(t, source), nil, api.ErrArity)
		both(rulesOf(t, source), []api.Fact{one}, api.ErrArity)
	}
}

// P26.3, P26.5: what is of no one level, what has no levels, what is neither; ahead of a number of workers that may not be.
func TestLevelErrors(t *testing.T) {
	for _, c := range []struct {
		rules      string
		run, model api.Errno
	}{
		{"p(count()) :- e(X).", api.ErrLevel, api.OK},
		{"p(count()).", api.ErrLevel, api.OK},
		{"p(X) :- e(X), not q(X). q(X) :- e(X).", api.ErrLevel, api.OK},
		{"p(Y) :- e(X), Y = X + 1. e(2).", api.ErrLevel, api.OK},
		{"p(X) :- e(X), not p(X).", api.ErrLevel, api.ErrNegCycle},
		{"p(X) :- e(X), not q(X). q(X) :- p(X).", api.ErrLevel, api.ErrNegCycle},
		{"p(count()) :- p(X).", api.ErrLevel, api.ErrAggCycle},
		{"p(Y) :- p(X), Y = X + 1.", api.ErrLevel, api.ErrMakeCycle},
		{"q(X) :- q(X). p(Y) :- p(X), Y = X + 1. n(X) :- n(X), not n(X).", api.ErrLevel, api.ErrMakeCycle},
		{"p(X) :- p(X).", api.OK, api.OK},
		{"p(X) :- e(X), not q(X). r(X) :- p(X).", api.OK, api.OK},
		{"p(Y) :- e(X), Y = X + 1. q(X) :- p(X).", api.OK, api.OK},
		{"p(Y) :- p(X), Y = X.", api.OK, api.OK},
	} {
		for _, l := range [][]api.Fact{nil, factsOf(t, "e(1).")} {
			for _, n := range []int{1, 16, 0, 17} {
				run, model := c.run, c.model
				if run == api.OK && n%17 == 0 {
					run = api.ErrArg
				}
				if model == api.OK && n%17 == 0 {
					model = api.ErrArg
				}
				wantRunCode(t, rulesOf(t, c.rules), l, n, run)
				wantModelCode(t, rulesOf(t, c.rules), l, n, model)
			}
		}
	}
}
