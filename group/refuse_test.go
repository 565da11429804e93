package group_test

import (
	"slices"
	"strings"
	"testing"

	"pedigree/api"
	"pedigree/group"
)

// wantCode: the error, beside which nothing else is told.
func wantCode(t *testing.T, r api.Rule, l []api.Fact, code api.Errno) {
	t.Helper()
	if got, err := group.Gives(r, l); err != code || err != api.OK && len(got) != 0 {
		t.Errorf("Gives(%s, %s) = %s, %d; want %d", brief(r), brief(l), brief(show(got)), err, code)
	}
}

// noRules are rules by hand that are none as they may be, with aggregates and without.
func noRules() []api.Rule {
	one := []api.Literal{pos("e", v("X"))}
	return []api.Rule{
		{},
		{Pred: "P"},
		{Pred: "count", Head: []api.Arg{count()}},
		{Pred: "P", Head: []api.Arg{count()}},
		{Pred: "p" + strings.Repeat("a", 120), Head: []api.Arg{count()}},
		{Pred: "p", Head: append(head(v("_")), count()), Body: []api.Literal{pos("e", v("_"))}},
		{Pred: "p", Head: append(head(v("x")), count())},
		{Pred: "p", Head: append(head(api.Term{}), count())},
		{Pred: "p", Head: append(head(api.Term{Var: "X", Val: num(1)}), count()), Body: one},
		{Pred: "p", Head: []api.Arg{{Agg: api.AggCount, Term: v("X")}}, Body: one},
		{Pred: "p", Head: []api.Arg{{Agg: api.AggCount, Term: v("_")}}, Body: one},
		{Pred: "p", Head: []api.Arg{{Agg: api.AggCount, Term: api.Term{Val: num(1)}}}, Body: one},
		{Pred: "p", Head: []api.Arg{{Agg: api.AggSum}}, Body: one},
		{Pred: "p", Head: []api.Arg{{Agg: api.AggMin}}, Body: one},
		{Pred: "p", Head: []api.Arg{{Agg: api.AggMax}}, Body: one},
		{Pred: "p", Head: []api.Arg{sum("_")}, Body: one},
		{Pred: "p", Head: []api.Arg{{Agg: api.AggMin, Term: v("_")}}, Body: one},
		{Pred: "p", Head: []api.Arg{{Agg: api.AggSum, Term: api.Term{Val: num(1)}}}, Body: one},
		{Pred: "p", Head: []api.Arg{{Agg: api.AggMax, Term: api.Term{Val: text("a")}}}, Body: one},
		{Pred: "p", Head: []api.Arg{{Agg: api.AggMin, Term: api.Term{Var: "X", Val: num(1)}}}, Body: one},
		{Pred: "p", Head: []api.Arg{{Agg: 5, Term: v("X")}}, Body: one},
		{Pred: "p", Head: []api.Arg{{Agg: -1, Term: v("X")}}, Body: one},
		{Pred: "p", Head: []api.Arg{count(), {Agg: 9}}, Body: one},
		{Pred: "p", Head: slices.Repeat([]api.Arg{count()}, 25)},
		{Pred: "p", Head: []api.Arg{count()}, Body: []api.Literal{{}}},
		{Pred: "p", Head: []api.Arg{count()}, Body: []api.Literal{{Kind: 9}}},
		{Pred: "p", Head: []api.Arg{count()}, Body: []api.Literal{pos("")}},
		{Pred: "p", Head: []api.Arg{count()}, Body: []api.Literal{pos("e", many(25)...)}},
		{Pred: "p", Head: []api.Arg{count()}, Body: slices.Repeat([]api.Literal{pos("g")}, 17)},
		{Pred: "p", Head: []api.Arg{sum("X")}, Body: []api.Literal{pos("w", many(24)...), pos("e", v("X"))}},
		{Pred: "p", Head: []api.Arg{sum("X")}, Body: []api.Literal{pos("w", many(24)...)}},
		{Pred: "p", Head: []api.Arg{count()}, Body: []api.Literal{cmp(ex(v("_")), api.RelEq, ex(v("_")))}},
		{Pred: "p", Head: []api.Arg{count()}, Body: []api.Literal{cmp(api.Expr{}, api.RelEq, api.Expr{})}},
		{Pred: "p", Head: []api.Arg{count()}, Body: []api.Literal{cmp(ex(api.Term{Val: num(1)}), api.RelNone, ex(api.Term{Val: num(1)}))}},
		{Pred: "p", Head: []api.Arg{count()}, Body: []api.Literal{cmp(op(api.OpAdd, ex(api.Term{Val: num(1)})), api.RelEq, ex(api.Term{Val: num(1)}))}},
	}
}

// noFacts are facts by hand that are none as they may be.
func noFacts() []api.Fact {
	return []api.Fact{
		{},
		{Pred: "E"},
		{Pred: "max"},
		{Pred: "e" + strings.Repeat("a", 120)},
		fact("e", api.Value{}),
		fact("z", api.Value{}),
		fact("e", num(1), api.Value{Kind: 7}),
		fact("e", api.Value{Kind: api.KNum, Text: "a"}),
		fact("e", api.Value{Kind: api.KText, Num: 1}),
		fact("e", text(strings.Repeat("a", 201))),
		wide("e", 25),
	}
}

// P16.1: the chapter's examples, over its facts.
func TestErrorExamples(t *testing.T) {
	l := factsOf(t, pay)
	wantCode(t, ruleOf(t, "n(P) :- pay(P, S, M)."), l, api.ErrArg)
	wantCode(t, ruleOf(t, "n(P, sum(Q)) :- pay(P, S, M)."), l, api.ErrSafe)
	wantCode(t, ruleOf(t, "pay(count()) :- pay(P, S, M)."), l, api.ErrArity)
}

// P16.1, R6: the errors of Job, each ahead of all that it stands ahead of, and then ErrArg.
func TestErrorsInTheirOrder(t *testing.T) {
	one, two, bad := nums("e", 1), nums("e", 1, 2), fact("E")
	for _, l := range [][]api.Fact{nil, {one}, {bad}, {one, two}, {one, two, bad}} {
		for _, r := range noRules() {
			wantCode(t, r, l, api.ErrTerm)
		}
		for _, source := range []string{
			"p(sum(Y)) :- e(X).", "p(min(Y)) :- e(X).", "p(max(Y)) :- e(X).", "p(Y, count()) :- e(X).", "p(count()) :- e(X), not f(Y).", "p(count()) :- X < 1.",
			"p(sum(X)).", "p(sum(X)) :- X = Y, Y = X.", "p(sum(X)) :- not e(X).", "p(sum(Y)) :- p(X, X), p(X).", "p(Y) :- e(X).", "p(X) :- p(X, X), not q(Y).", "p(X, sum(X)) :- e(_).",
		} {
			wantCode(t, ruleOf(t, source), l, api.ErrSafe)
		}
	}
	rules := []string{"p(count()) :- e(X).", "p(count()) :- f(X), f(X, X).", "p(X) :- e(X).", "p(X) :- e(X), p(X, X).", "p(1)."}
	for _, f := range noFacts() {
		for _, source := range rules {
			wantCode(t, ruleOf(t, source), []api.Fact{f}, api.ErrValue)
			wantCode(t, ruleOf(t, source), []api.Fact{one, two, f, one}, api.ErrValue)
		}
	}
	for _, source := range []string{"p(count()) :- e(X).", "p(X) :- e(X).", "p(1).", "p(count())."} {
		wantCode(t, ruleOf(t, source), []api.Fact{one, two}, api.ErrArity)
		wantCode(t, ruleOf(t, source), []api.Fact{nums("z"), one, nums("z", 1)}, api.ErrArity)
	}
	for _, source := range []string{"p(X) :- e(X, X), not e(X).", "p(X) :- p(X, X).", "p(count()) :- p(X), p(X, X).", "p(X, count()) :- e(X), p(X).", "p(count()) :- f, not f(1).", "p(count()) :- e(X), not p."} {
		wantCode(t, ruleOf(t, source), nil, api.ErrArity)
		wantCode(t, ruleOf(t, source), []api.Fact{one}, api.ErrArity)
	}
	for _, source := range []string{"p(X) :- e(X, X).", "p(count()) :- e(X, X).", "p(count()) :- not e(1, 2).", "e(1, 2).", "e(1, count()).", "e(X, count()) :- f(X).", "e(X, X, count()) :- g(X)."} {
		wantCode(t, ruleOf(t, source), []api.Fact{one, nums("f", 1)}, api.ErrArity)
	}
}

// P16.1: a rule without an aggregate, whatever it would give; one with an aggregate, of which kind and where it stands.
func TestNoAggregate(t *testing.T) {
	for _, l := range [][]api.Fact{nil, factsOf(t, "e(1). e(2). f(1).")} {
		for _, source := range []string{"p.", "p(1).", "p(X) :- e(X).", "p(X, 5) :- e(X), not f(X).", "p :- e(X).", "p(Y) :- e(X), Y = X + 1.", "e(X) :- e(X)."} {
			wantCode(t, ruleOf(t, source), l, api.ErrArg)
		}
		for _, source := range []string{"p(count()).", "p(count()) :- e(X).", "p(sum(X)) :- e(X).", "p(min(X)) :- e(X).", "p(max(X)) :- e(X).", "p(X, 1, min(X)) :- e(X).", "p(max(X), X) :- e(X), not f(X).", "e(count()) :- e(X)."} {
			wantCode(t, ruleOf(t, source), l, api.OK)
		}
	}
}

// R4: no list and an empty one are the same.
func TestEmptyLists(t *testing.T) {
	plain := []api.Term{}
	for _, body := range [][]api.Literal{nil, {}, {pos("a")}, {pos("a", plain...)}} {
		for _, l := range [][]api.Fact{{nums("a")}, {{Pred: "a", Args: []api.Value{}}}} {
			wantGives(t, api.Rule{Pred: "n", Head: []api.Arg{count()}, Body: body}, l, "n(1)")
		}
	}
	for _, l := range [][]api.Fact{nil, {}} {
		wantGives(t, api.Rule{Pred: "n", Head: []api.Arg{count()}}, l, "n(1)")
		wantGives(t, api.Rule{Pred: "n", Head: []api.Arg{count()}, Body: []api.Literal{pos("a")}}, l, "")
		wantCode(t, api.Rule{Pred: "n", Head: []api.Arg{}, Body: []api.Literal{}}, l, api.ErrArg)
	}
}
