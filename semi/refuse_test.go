package semi_test

import (
	"slices"
	"strings"
	"testing"

	"pedigree/api"
	"pedigree/semi"
)

// wantCode asks for the error, beside which nothing else is told.
func wantCode(t *testing.T, rules []api.Rule, l []api.Fact, code api.Errno) {
	t.Helper()
	got, s, err := semi.Run(rules, l)
	if err != code || err != api.OK && (len(got) != 0 || s.Rounds != 0 || len(s.New) != 0 || s.Joins != 0) {
		t.Errorf("Run(%s, %s) = %s, %s, %d; want %d", brief(rules), brief(l), brief(show(got)), brief(stats(s)), err, code)
	}
}

// noRules are rules by hand that are none as they may be.
func noRules() []api.Rule {
	var body []api.Literal
	for _, x := range many(24) {
		body = append(body, pos("e", x))
	}
	return []api.Rule{
		{},
		{Pred: "P"},
		{Pred: "not"},
		{Pred: "p" + strings.Repeat("a", 120)},
		{Pred: "p", Head: head(v("_")), Body: []api.Literal{pos("e", v("_"))}},
		{Pred: "p", Head: head(v("x"))},
		{Pred: "p", Head: head(api.Term{})},
		{Pred: "p", Head: head(api.Term{Var: "X", Val: num(1)}), Body: []api.Literal{pos("e", v("X"))}},
		{Pred: "p", Head: []api.Arg{{Agg: api.AggCount, Term: v("X")}}, Body: []api.Literal{pos("e", v("X"))}},
		{Pred: "p", Head: []api.Arg{{Agg: api.AggSum, Term: api.Term{Val: num(1)}}}, Body: []api.Literal{pos("e", v("X"))}},
		{Pred: "p", Head: []api.Arg{{Agg: 9, Term: v("X")}}, Body: []api.Literal{pos("e", v("X"))}},
		{Pred: "p", Head: []api.Arg{{Agg: -1, Term: v("X")}}, Body: []api.Literal{pos("e", v("X"))}},
		{Pred: "p", Head: head(many(25)...)},
		{Pred: "p", Body: []api.Literal{{}}},
		{Pred: "p", Body: []api.Literal{{Kind: 9}}},
		{Pred: "p", Body: []api.Literal{pos("")}},
		{Pred: "p", Body: []api.Literal{pos("e", many(25)...)}},
		{Pred: "p", Body: slices.Repeat([]api.Literal{pos("g")}, 17)},
		{Pred: "p", Head: head(v("X")), Body: append(body[:15:15], pos("w", many(24)...), pos("e", v("X")))},
		{Pred: "p", Head: head(v("X")), Body: []api.Literal{pos("w", many(24)...), pos("e", v("X"))}},
		{Pred: "p", Body: []api.Literal{cmp(ex(v("_")), api.RelEq, ex(v("_")))}},
		{Pred: "p", Body: []api.Literal{cmp(api.Expr{}, api.RelEq, api.Expr{})}},
		{Pred: "p", Body: []api.Literal{cmp(ex(api.Term{Val: num(1)}), api.RelNone, ex(api.Term{Val: num(1)}))}},
		{Pred: "p", Body: []api.Literal{cmp(op(api.OpAdd, ex(api.Term{Val: num(1)})), api.RelEq, ex(api.Term{Val: num(1)}))}},
	}
}

// noFacts are facts by hand that are none as they may be.
func noFacts() []api.Fact {
	return []api.Fact{
		{},
		{Pred: "E"},
		{Pred: "max"},
		{Pred: "e" + strings.Repeat("a", 120)},
		fact("e", api.Value{}),
		fact("e", num(1), api.Value{Kind: 7}),
		fact("e", api.Value{Kind: api.KNum, Text: "a"}),
		fact("e", api.Value{Kind: api.KText, Num: 1}),
		fact("e", text(strings.Repeat("a", 201))),
		wide("e", 25),
	}
}

// P15.1: the chapter's examples.
func TestErrorExamples(t *testing.T) {
	for _, source := range []string{"p(Y) :- p(X), Y = X + 1.", "p(count()) :- e(_).", "p :- not q. q :- e."} {
		wantCode(t, rulesOf(t, source), nil, api.ErrLevel)
	}
	wantCode(t, rulesOf(t, ancestors), factsOf(t, "anc(1)."), api.ErrArity)
}

// P15.1, R6: the errors of Job, each ahead of all that it stands ahead of.
func TestErrorsInTheirOrder(t *testing.T) {
	good, unsafe, aggregate, cycle := "p(X) :- e(X). ", "p(Y) :- e(X). ", "c(count()) :- e(X). ", "w(X) :- e(X), not w(X). "
	one, two := nums("e", 1), nums("e", 1, 2)
	bad := fact("E")
	lists := [][]api.Fact{nil, {one}, {bad}, {one, two}, {one, two, bad}}
	for _, l := range lists {
		for _, r := range noRules() {
			wantCode(t, []api.Rule{r}, l, api.ErrTerm)
			wantCode(t, slices.Concat(rulesOf(t, good+aggregate+cycle), []api.Rule{r}, rulesOf(t, unsafe)), l, api.ErrTerm)
			wantCode(t, slices.Concat(rulesOf(t, good+unsafe), []api.Rule{r}), l, api.ErrSafe)
		}
		for _, source := range []string{unsafe, "p(X) :- not e(X).", "p(X).", "p :- X < 1.", "p :- X = Y, Y = X.", "p(sum(Y)) :- e(X).", "p(X) :- p(X, Y), not p(Z)."} {
			wantCode(t, rulesOf(t, source), l, api.ErrSafe)
			wantCode(t, rulesOf(t, good+aggregate+cycle+source), l, api.ErrSafe)
		}
	}
	for _, f := range noFacts() {
		for _, source := range []string{"", good, aggregate, cycle, "p(X) :- e(X, X), not e(X).", good + "p(1, 2)."} {
			wantCode(t, rulesOf(t, source), []api.Fact{f}, api.ErrValue)
			wantCode(t, rulesOf(t, source), []api.Fact{one, two, f, one}, api.ErrValue)
		}
	}
	for _, source := range []string{"", good, aggregate, cycle} {
		wantCode(t, rulesOf(t, source), []api.Fact{one, two}, api.ErrArity)
		wantCode(t, rulesOf(t, source), []api.Fact{nums("z"), one, nums("z", 1)}, api.ErrArity)
	}
	for _, source := range []string{"p(X) :- e(X, X), not e(X).", "p(X) :- p(X, X).", "p(count()) :- p(X), p(X, X).", good + "e(1, 2).", "f :- not f(1).", aggregate + "c(1, 2)."} {
		wantCode(t, rulesOf(t, source), nil, api.ErrArity)
		wantCode(t, rulesOf(t, source), []api.Fact{one}, api.ErrArity)
	}
	for _, source := range []string{"p(X) :- e(X, X).", "p(1) :- not e(1, 2).", "e(1, 2).", "e(count()) :- e(X). p(count()) :- f(X, X). f(1)."} {
		wantCode(t, rulesOf(t, source), []api.Fact{one, nums("f", 1)}, api.ErrArity)
	}
}

// P15.1: an aggregate; a not, and a rule that makes values, with a predicate for which there is a rule; what is neither.
func TestLevelErrors(t *testing.T) {
	one := factsOf(t, "e(1).")
	for _, source := range []string{
		"p(count()) :- e(X).",
		"p(count()).",
		"p(sum(X)) :- e(X).",
		"p(X, min(X)) :- e(X).",
		"p(max(X), X) :- e(X), not f(X).",
		"a(X) :- e(X). p(count()) :- e(X). b(X) :- e(X).",
		"p(X) :- e(X), not p(X).",
		"p(Y) :- p(X), Y = X + 1.",
		"e(Y) :- e(X), Y = X.  e(Y) :- e(X), Y = -X.",
		"p(X) :- e(X), not q(X). q(X) :- e(X).",
		"q(X) :- e(X). p(X) :- e(X), not q(X).",
		"q(1). p(X) :- e(X), not q(_).",
		"p(Y) :- e(X), Y = X + 1. e(2).",
		"p(Y) :- e(X), Y = X, X < 1 + 1. e(X) :- f(X).",
	} {
		wantCode(t, rulesOf(t, source), one, api.ErrLevel)
		wantCode(t, rulesOf(t, source), nil, api.ErrLevel)
	}
	for _, source := range []string{
		"",
		"p(X) :- p(X).",
		"p(X) :- e(X), not q(X). r(X) :- p(X).",
		"p(Y) :- e(X), Y = X + 1. q(X) :- p(X).",
		"p(Y) :- p(X), Y = X.",
		"p(Y) :- p(X), f(Y), Y = X + 1.",
		"p(X) :- p(X), X < 1 + 1. p(X) :- e(X).",
		"p :- p, not q. q2 :- p.",
	} {
		wantCode(t, rulesOf(t, source), one, api.OK)
		wantCode(t, rulesOf(t, source), nil, api.OK)
	}
}

// R4: no list and an empty one are the same.
func TestEmptyLists(t *testing.T) {
	for _, rules := range [][]api.Rule{nil, {}} {
		for _, l := range [][]api.Fact{nil, {}} {
			wantRun(t, rules, l, "", "1 [] 0")
		}
	}
	for _, r := range []api.Rule{{Pred: "p"}, {Pred: "p", Head: []api.Arg{}, Body: []api.Literal{}}} {
		for _, l := range [][]api.Fact{{nums("a")}, {{Pred: "a", Args: []api.Value{}}}} {
			wantRun(t, []api.Rule{r}, l, "a, p", "2 [1] 1")
		}
	}
}
