package model_test

import (
	"math"
	"slices"
	"strings"
	"testing"

	"pedigree/api"
	"pedigree/model"
)

// wantUptoCode: the error, beside which nothing else is told.
func wantUptoCode(t *testing.T, p api.Program, l []api.Fact, level api.Level, code api.Errno) {
	t.Helper()
	if got, err := model.Upto(p, l, level); err != code || err != api.OK && len(got) != 0 {
		t.Errorf("Upto(%s, %s, %v) = %s, %d; want %d", brief(p.Rules), brief(l), level, brief(show(got)), err, code)
	}
}

// wantCode: the same error of Model and of Upto at any level, and no model then.
func wantCode(t *testing.T, p api.Program, l []api.Fact, code api.Errno) {
	t.Helper()
	got, err := model.Model(p, l)
	if err != code || err != api.OK && len(got) != 0 {
		t.Errorf("Model(%s, %s) = %s, %d; want %d", brief(p.Rules), brief(l), brief(show(got)), err, code)
	}
	if is := model.Is(p, l, got); is != (code == api.OK) {
		t.Errorf("Is(%s, %s, %s) = %v", brief(p.Rules), brief(l), brief(show(got)), is)
	}
	wantUptoCode(t, p, l, api.Level{}, code)
	wantUptoCode(t, p, l, api.Level{N: math.MaxInt32}, code)
	if code == api.OK {
		code = api.ErrArg
	}
	for _, level := range []api.Level{{N: -1}, {N: math.MinInt32}, {Pred: "p"}, {Pred: "e", N: 1}, {Pred: "_"}, {Pred: " ", N: -1}, {Pred: strings.Repeat("a", 300)}} {
		wantUptoCode(t, p, l, level, code)
	}
}

func mustModel(t *testing.T, p api.Program, l []api.Fact) []api.Fact {
	t.Helper()
	out, err := model.Model(p, l)
	if err != api.OK {
		t.Fatalf("Model(%s, %s): %d", brief(p.Rules), brief(show(l)), err)
	}
	return out
}

// P17.1, P17.3: the errors of check.Job, of the cycles, and ErrArg, of sources.
func TestErrors(t *testing.T) {
	for _, c := range []struct {
		rules, facts string
		code         api.Errno
	}{
		{"p(X) :- e(X), not q(X). q(X) :- p(X).", "", api.ErrNegCycle},
		{"p(X) :- e(X), not p(X).", "e(1).", api.ErrNegCycle},
		{"p :- not p.", "p.", api.ErrNegCycle},
		{"p(count()) :- p(X).", "p(1).", api.ErrAggCycle},
		{"p(count()) :- q(X). q(X) :- r(X). r(X) :- p(X).", "", api.ErrAggCycle},
		{"p(Y) :- p(X), Y = X + 1.", "p(1).", api.ErrMakeCycle},
		{"p(X) :- q(X). q(Y) :- p(X), Y = X + 1.", "", api.ErrMakeCycle},
		{"p(Y) :- e(X).", "", api.ErrSafe},
		{"p(X) :- e(X), not f(Y).", "", api.ErrSafe},
		{"p(sum(Y)) :- e(X).", "", api.ErrSafe},
		{"p(X) :- e(X), X < Y.", "e(1).", api.ErrSafe},
		{"p(X) :- e(X).", "e(1, 2).", api.ErrArity},
		{"p(X) :- e(X).", "p(1, 2).", api.ErrArity},
		{"p(X) :- p(X, X).", "", api.ErrArity},
		{"p(X) :- e(X), not e(X, X).", "", api.ErrArity},
		{"", "e(1). e.", api.ErrArity},
		{"p(X) :- e(X).", "z(1). z(1, 2).", api.ErrArity},
		{"p(X) :- e(X), not q(X). q(X) :- e(X).", "e(1).", api.OK},
	} {
		wantCode(t, programOf(t, c.rules), factsOf(t, c.facts), c.code)
	}
}

// P17.1: of several errors the first one: ErrTerm and ErrSafe by the rules' order, ErrValue, ErrArity, the cycles by the edges' order, ErrArg.
func TestWhichErrorComesFirst(t *testing.T) {
	rule := func(source string) api.Rule { return programOf(t, source).Rules[0] }
	term, safe := api.Rule{Pred: "P"}, rule("s(Y) :- e(X).")
	neg, agg, made := rule("neg(X) :- e(X), not neg(X)."), rule("agg(count()) :- agg(X)."), rule("made(Y) :- made(X), Y = X + 1.")
	arity, fine := rule("e(X, Y) :- f(X, Y)."), rule("fine(X) :- e(X), not f(X, X).")
	bad, clash, good := fact("e", api.Value{}), nums("e", 1, 2, 3), nums("e", 1)
	for _, c := range []struct {
		rules []api.Rule
		facts []api.Fact
		code  api.Errno
	}{
		{[]api.Rule{term, safe}, nil, api.ErrTerm},
		{[]api.Rule{safe, term}, nil, api.ErrSafe},
		{[]api.Rule{neg, arity, fine, safe, term}, []api.Fact{bad, clash}, api.ErrSafe},
		{[]api.Rule{agg, arity, fine, term, safe}, []api.Fact{clash, bad}, api.ErrTerm},
		{[]api.Rule{neg, arity, fine}, []api.Fact{clash, bad}, api.ErrValue},
		{[]api.Rule{neg, arity, fine}, []api.Fact{good}, api.ErrArity},
		{[]api.Rule{made, fine}, []api.Fact{good, clash}, api.ErrArity},
		{[]api.Rule{fine, agg, neg, made}, []api.Fact{good}, api.ErrAggCycle},
		{[]api.Rule{fine, neg, made, agg}, []api.Fact{good}, api.ErrNegCycle},
		{[]api.Rule{made, agg, neg, fine}, []api.Fact{good}, api.ErrMakeCycle},
		{[]api.Rule{rule("p(count()) :- p(X), not p(X).")}, nil, api.ErrAggCycle},
		{[]api.Rule{rule("p(count()) :- not p(1), p(X).")}, nil, api.ErrNegCycle},
		{[]api.Rule{fine}, []api.Fact{good}, api.OK},
	} {
		wantCode(t, api.Program{Rules: c.rules}, c.facts, c.code)
	}
}

// noRules are rules by hand that are none as they may be.
func noRules() []api.Rule {
	one := []api.Literal{pos("e", v("X"))}
	deep := ex(v("X"))
	for range 8 {
		deep = op(api.OpNeg, deep)
	}
	return []api.Rule{
		{}, {Pred: "P"}, {Pred: "not"}, {Pred: "p q"}, {Pred: "p" + strings.Repeat("a", 120)},
		{Pred: "p", Head: head(v("_"))}, {Pred: "p", Head: head(v("x"))}, {Pred: "p", Head: head(api.Term{})}, {Pred: "p", Head: head(many(25)...)},
		{Pred: "p", Head: head(api.Term{Var: "X", Val: num(1)}), Body: one},
		{Pred: "p", Head: []api.Arg{{Agg: api.AggCount, Term: v("X")}}, Body: one},
		{Pred: "p", Head: []api.Arg{{Agg: api.AggSum}}, Body: one},
		{Pred: "p", Head: []api.Arg{{Agg: 5, Term: v("X")}}, Body: one},
		{Pred: "p", Head: []api.Arg{{Agg: -1, Term: v("X")}}, Body: one},
		{Pred: "p", Body: []api.Literal{{}}}, {Pred: "p", Body: []api.Literal{{Kind: 9}}}, {Pred: "p", Body: []api.Literal{pos("")}},
		{Pred: "p", Body: []api.Literal{pos("e", many(25)...)}}, {Pred: "p", Body: slices.Repeat([]api.Literal{pos("e")}, 17)},
		{Pred: "p", Body: []api.Literal{cmp(ex(v("_")), api.RelEq, ex(v("X")))}},
		{Pred: "p", Body: append(slices.Clone(one), cmp(deep, api.RelEq, ex(v("X"))))},
		{Pred: "p", Body: append(slices.Clone(one), cmp(ex(v("X")), api.RelNone, ex(v("X"))))},
		{Pred: "p", Body: append(slices.Clone(one), cmp(ex(v("X")), 7, ex(v("X"))))},
		{Pred: "p", Body: append(slices.Clone(one), cmp(op(11, ex(v("X"))), api.RelEq, ex(v("X"))))},
		{Pred: "p", Body: append(slices.Clone(one), cmp(op(api.OpAdd, ex(v("X"))), api.RelEq, ex(v("X"))))},
		{Pred: "p", Body: []api.Literal{pos("e", many(24)...), pos("e", v("W"))}},
	}
}

// P17.1, R1: rules and facts by hand that are none as they may be, by themselves, ahead of others and behind them.
func TestNoRulesAndNoFacts(t *testing.T) {
	fine := programOf(t, "r(X) :- f(X), not g(X).").Rules
	for _, r := range noRules() {
		for _, rules := range [][]api.Rule{{r}, {r, fine[0]}, {fine[0], r}, {r, r}} {
			wantCode(t, api.Program{Rules: rules}, nil, api.ErrTerm)
			wantCode(t, api.Program{Rules: rules}, []api.Fact{{}, nums("f", 1, 2)}, api.ErrTerm)
		}
	}
	for _, f := range []api.Fact{
		{}, fact("F"), fact("count"), fact("f(1)"), fact("f" + strings.Repeat("a", 120)), {Pred: "f", Args: make([]api.Value, 25)}, {Pred: "f", Args: slices.Repeat([]api.Value{num(1)}, 25)},
		fact("f", api.Value{}), fact("f", api.Value{Kind: 3}), fact("f", api.Value{Kind: -1}), fact("f", api.Value{Kind: api.KNum, Text: "1"}),
		fact("f", api.Value{Kind: api.KText, Num: 1}), fact("f", text(strings.Repeat("a", 201))), fact("f", num(1), api.Value{}),
	} {
		wantCode(t, api.Program{}, []api.Fact{f}, api.ErrValue)
		wantCode(t, api.Program{Rules: fine}, []api.Fact{nums("f", 1), f}, api.ErrValue)
		wantCode(t, api.Program{Rules: fine}, []api.Fact{f, nums("f", 1)}, api.ErrValue)
	}
}

// R4: empty lists and nil mean the same.
func TestEmptyLists(t *testing.T) {
	for _, p := range []api.Program{{}, {Rules: []api.Rule{}}} {
		for _, l := range [][]api.Fact{nil, {}} {
			wantModel(t, p, l, "")
			wantUpto(t, p, l, 0, "")
			wantIs(t, p, l, nil, true)
			wantIs(t, p, l, []api.Fact{}, true)
		}
	}
	p := api.Program{Rules: []api.Rule{{Pred: "p", Head: []api.Arg{}, Body: []api.Literal{{Kind: api.LPos, Atom: api.Atom{Pred: "e", Args: []api.Term{}}}}}}}
	wantModel(t, p, []api.Fact{{Pred: "e", Args: []api.Value{}}}, "e, p")
	wantIs(t, p, []api.Fact{{Pred: "e"}}, []api.Fact{{Pred: "e", Args: []api.Value{}}, {Pred: "p", Args: []api.Value{}}, {Pred: "p"}}, true)
	wantAnswers(t, api.Atom{Pred: "e", Args: []api.Term{}}, []api.Fact{{Pred: "e", Args: []api.Value{}}, {Pred: "e"}}, "()")
}

// P17.5: what is no atom as it may be has no answers, whatever the facts are.
func TestAnswersOfNoAtom(t *testing.T) {
	wide := api.Fact{Pred: "p", Args: slices.Repeat([]api.Value{num(1)}, 25)}
	m := []api.Fact{nums("p", 1), nums("P", 1), fact("p"), fact("", num(1)), nums("not", 1), fact("p", api.Value{}), fact("p", text("x")), wide, nums("p", 1, 1)}
	for _, q := range []api.Atom{
		{}, {Pred: "P"}, {Pred: "P", Args: []api.Term{v("X")}}, {Args: []api.Term{v("X")}}, {Pred: "not", Args: []api.Term{v("X")}},
		{Pred: "p", Args: []api.Term{v("x")}}, {Pred: "p", Args: []api.Term{{}}}, {Pred: "p", Args: []api.Term{v("X Y")}},
		{Pred: "p", Args: []api.Term{{Var: "X", Val: num(1)}}}, {Pred: "p", Args: []api.Term{{Var: "_", Val: num(1)}}},
		{Pred: "p", Args: []api.Term{{Val: api.Value{Kind: 3, Num: 1}}}}, {Pred: "p", Args: []api.Term{{Val: api.Value{Kind: api.KNum, Num: 1, Text: "a"}}}},
		{Pred: "p", Args: []api.Term{v("X"), v("x")}}, {Pred: "p", Args: []api.Term{v("x"), v("X")}}, {Pred: "p", Args: many(25)}, {Pred: "p", Args: slices.Repeat([]api.Term{v("_")}, 25)},
		{Pred: "p", Args: []api.Term{v("X" + strings.Repeat("a", 120))}},
	} {
		wantAnswers(t, q, m, "")
	}
}

// P17.5: a fact one of whose values may not be is no answer; the others of its name are.
func TestAnswersOverNoFacts(t *testing.T) {
	long := text(strings.Repeat("a", 201))
	m := []api.Fact{nums("p", 2, 1), fact("p", num(1), api.Value{}), fact("p", api.Value{Kind: 3, Num: 1}, num(1)), fact("p", long, long), fact("p", num(1), api.Value{Kind: api.KNum, Num: 1, Text: "1"}),
		fact("p", api.Value{Kind: api.KText, Num: 1, Text: "a"}, num(1)), fact("p", text("a"), num(1)), fact("p", api.Value{}, api.Value{}), fact("p", api.Value{Kind: -1}, num(1))}
	for _, q := range []api.Atom{
		{Pred: "p", Args: []api.Term{v("X"), v("Y")}}, {Pred: "p", Args: []api.Term{v("_"), v("_")}}, {Pred: "p", Args: []api.Term{v("_"), v("Y")}}, {Pred: "p", Args: []api.Term{v("_"), {Val: num(1)}}},
	} {
		wantAnswers(t, q, m, "(2, 1), (a, 1)")
	}
	wantAnswers(t, api.Atom{Pred: "p", Args: []api.Term{v("X"), v("X")}}, m, "")
}
