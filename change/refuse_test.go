package change_test

import (
	"slices"
	"strings"
	"testing"

	"pedigree/api"
	"pedigree/change"
)

// wantNew asks for the error of New, beside which there is no view.
func wantNew(t *testing.T, rules []api.Rule, l []api.Fact, code api.Errno) {
	t.Helper()
	p := api.Program{Rules: rules}
	if x, err := change.New(p, l); err != code || (x == nil) != (code != api.OK) {
		t.Errorf("New(%v, %s) = %v, %d; want %d", p, show(l), x, err, code)
	}
}

// P24.2: each error that a program and facts have.
func TestErrorsOfNew(t *testing.T) {
	for _, c := range []struct {
		rules, facts string
		code         api.Errno
	}{
		{"p(Y) :- e(X).", "e(1).", api.ErrSafe},
		{"p(X) :- e(X), not f(Y).", "e(1).", api.ErrSafe},
		{"p(X) :- p(X, X).", "", api.ErrArity},
		{"p(X) :- e(X).", "e(1). e(1, 2).", api.ErrArity},
		{"p(X) :- e(X).", "p(1, 2).", api.ErrArity},
		{"", "z. z(1).", api.ErrArity},
		{"p(X) :- e(X), not p(X).", "", api.ErrNegCycle},
		{"p(X) :- e(X), not q(X). q(X) :- p(X).", "e(1).", api.ErrNegCycle},
		{"p(count()) :- p(X).", "e(1).", api.ErrAggCycle},
		{"p(Y) :- p(X), Y = X + 1.", "e(1).", api.ErrMakeCycle},
		{"p(Y) :- e(X), Y = X + 1. p(X) :- p(X).", "e(1).", api.OK},
	} {
		wantNew(t, programOf(t, c.rules).Rules, factsOf(t, c.facts), c.code)
	}
	wantNew(t, []api.Rule{{Pred: "P"}}, nil, api.ErrTerm)
	wantNew(t, []api.Rule{{Pred: "p", Body: []api.Literal{{}}}}, nil, api.ErrTerm)
	wantNew(t, nil, []api.Fact{{}}, api.ErrValue)
	wantNew(t, nil, []api.Fact{fact("e", api.Value{Kind: api.KNum, Text: "a"})}, api.ErrValue)
	wantNew(t, nil, []api.Fact{fact("e", text(strings.Repeat("a", api.MaxText+1)))}, api.ErrValue)
}

// P24.2: of several errors the first one.
func TestWhichErrorComesFirst(t *testing.T) {
	rule := func(source string) api.Rule { return programOf(t, source).Rules[0] }
	bad, unsafe, clash := api.Rule{Pred: "P"}, rule("s(Y) :- e(X)."), rule("e(X, Y) :- f(X, Y).")
	neg, agg, fine := rule("w(X) :- e(X), not w(X)."), rule("a(count()) :- a(X)."), rule("p(X) :- e(X).")
	wrong := []api.Fact{{Pred: "e", Args: []api.Value{{Kind: 7}}}}
	wantNew(t, []api.Rule{fine, neg, bad, unsafe, clash}, wrong, api.ErrTerm)
	wantNew(t, []api.Rule{fine, neg, unsafe, bad, clash}, wrong, api.ErrSafe)
	wantNew(t, []api.Rule{fine, neg, clash}, append(factsOf(t, "e. z."), wrong...), api.ErrValue)
	wantNew(t, []api.Rule{fine, neg, clash}, factsOf(t, "e(1)."), api.ErrArity)
	wantNew(t, []api.Rule{fine, neg}, factsOf(t, "e(1). z. z(1)."), api.ErrArity)
	wantNew(t, []api.Rule{fine, neg, agg}, factsOf(t, "e(1)."), api.ErrNegCycle)
	wantNew(t, []api.Rule{fine, agg, neg}, factsOf(t, "e(1)."), api.ErrAggCycle)
	wantNew(t, []api.Rule{fine}, factsOf(t, "e(1)."), api.OK)
}

// wantTurn asks for the error of a turn, beside which nothing is told and the view is as it was.
func wantTurn(t *testing.T, x *change.View, add, remove []api.Fact, code api.Errno) {
	t.Helper()
	before := whole(x)
	d, err := x.Turn(add, remove)
	if err != code || len(d.Added)+len(d.Removed) != 0 || whole(x) != before {
		t.Errorf("%s: Turn(%s, %s) = %v, %d, then %s; want %d", before, show(add), show(remove), d, err, whole(x), code)
	}
}

// P24.4: the chapter's examples of turns that are refused, of a view that doubts something.
func TestErrorsOfTurn(t *testing.T) {
	x := viewOf(t, ancestors, "par(1, 2). par(2, 3). z(1).")
	mustTurn(t, x, nil, factsOf(t, "par(2, 3)."))
	for _, c := range []struct {
		add, remove string
	}{
		{"par(1).", ""},
		{"par(1, 2, 3).", "par(1, 2)."},
		{"anc(1).", "par(1, 2)."},
		{"z(1, 2).", ""},
		{"y. y(1).", "y. y(1)."},
		{"par(7, 8). z(2). z.", "z(1)."},
	} {
		wantTurn(t, x, factsOf(t, c.add), factsOf(t, c.remove), api.ErrArity)
	}
	none := []api.Fact{{}, {Pred: "Par"}, {Pred: "not"}, fact("par", num(1), api.Value{}), fact("par", api.Value{Kind: 9}), nums("wide", make([]int, api.MaxWide+1)...)}
	for _, f := range none {
		wantTurn(t, x, []api.Fact{f}, nil, api.ErrValue)
		wantTurn(t, x, []api.Fact{f}, []api.Fact{f}, api.ErrValue)
		wantTurn(t, x, append(factsOf(t, "par(1). z."), f), factsOf(t, "par(1, 2)."), api.ErrValue)
		wantTurn(t, x, slices.Concat([]api.Fact{f}, factsOf(t, "par(4, 5).")), none, api.ErrValue)
	}
	// what is to be removed is not looked at, and the view goes on
	d := mustTurn(t, x, factsOf(t, "par(2, 4)."), append(none, factsOf(t, "par(1). z. nobody(1, 2, 3). z(1). anc(1, 2).")...))
	if got := told(d, x); got != "anc(1, 4). anc(2, 4). par(2, 4). | z(1). | z(1)." {
		t.Errorf("behind the refused turns: %s", got)
	}
}

// P24.4: a predicate that no rule has may get another number of columns, if no fact of the old one is left.
func TestOtherColumns(t *testing.T) {
	x := viewOf(t, ancestors, "e(1). e(2). par(1, 2).")
	wantTurn(t, x, factsOf(t, "e(1, 2)."), factsOf(t, "e(1)."), api.ErrArity)
	d := mustTurn(t, x, factsOf(t, "e(1, 2). e(0, 7)."), factsOf(t, "e(1). e(2)."))
	if got := told(d, x); got != "e(0, 7). e(1, 2). | e(1). e(2). | e(1). e(2)." {
		t.Errorf("with two columns: %s", got)
	}
	d = mustTurn(t, x, factsOf(t, "e."), factsOf(t, "e(1, 2). e(0, 7). e(1)."))
	if got := told(d, x); got != "e. | e(0, 7). e(1, 2). | e(0, 7). e(1, 2)." || show(x.Facts()) != "anc(1, 2). e. par(1, 2)." {
		t.Errorf("without columns: %s, %s", got, whole(x))
	}
}
