package term_test

import (
	"slices"
	"strconv"
	"testing"

	"pedigree/api"
	"pedigree/term"
)

func wantNames(t *testing.T, call string, got []string, want ...string) {
	t.Helper()
	if !slices.Equal(got, want) {
		t.Errorf("%s = %#v, want %#v", call, got, want)
	}
}

func wantDepth(t *testing.T, e api.Expr, want int) {
	t.Helper()
	if got := term.Depth(e); got != want {
		t.Errorf("Depth(%#v) = %d, want %d", e, got, want)
	}
}

func wantHead(t *testing.T, r api.Rule, want api.Atom, ok bool) {
	t.Helper()
	if got, found := term.Head(r); got.Pred != want.Pred || !slices.Equal(got.Args, want.Args) || found != ok {
		t.Errorf("Head(%#v) = %#v, %v; want %#v, %v", r, got, found, want, ok)
	}
}

// P4.2: the chapter's examples.
func TestVariablesExamples(t *testing.T) {
	r := rule("p", head(v("Y"), v("X")), pos("q", v("X"), v("Z")), cmp(ex(v("Z")), api.RelLt, op(api.OpAdd, ex(v("Y")), ex(v("W")))))
	wantNames(t, "RuleVars", term.RuleVars(r), "Y", "X", "Z", "W")
	wantDepth(t, ex(v("X")), 1)
	wantDepth(t, op(api.OpAdd, ex(v("X")), ex(n(1))), 2)
	wantDepth(t, op(api.OpNeg, op(api.OpAdd, ex(v("X")), ex(n(1)))), 3)
}

// P4.2: the order in which terms stand, in each thing.
func TestVariablesInOrder(t *testing.T) {
	wantNames(t, "AtomVars", term.AtomVars(atom("p", v("Z"), v("_"), v("A"), n(1), v("Z"), s("B"), v("M"))), "Z", "A", "M")
	e := op(api.OpAdd, op(api.OpNeg, ex(v("B"))), op(api.OpSub, ex(v("A")), ex(v("B"))))
	wantNames(t, "ExprVars", term.ExprVars(e), "B", "A")
	wantNames(t, "LiteralVars", term.LiteralVars(cmp(op(api.OpNeg, ex(v("C"))), api.RelLt, e)), "C", "B", "A")
	wantNames(t, "LiteralVars", term.LiteralVars(not("q", v("D"), v("C"), v("D"))), "D", "C")
	r := rule("p", []api.Arg{{Term: v("H")}, {Agg: api.AggCount}, {Agg: api.AggSum, Term: v("G")}, {Term: n(1)}}, not("q", v("G"), v("F")), cmp(ex(v("E")), api.RelEq, e), pos("q", v("H"), v("A0")))
	wantNames(t, "RuleVars", term.RuleVars(r), "H", "G", "F", "E", "B", "A", "A0")
	wantNames(t, "RuleVars", term.RuleVars(rule("p", nil)))
	wantNames(t, "AtomVars", term.AtomVars(atom("p")))
	wantNames(t, "ExprVars", term.ExprVars(ex(n(1))))
	wantNames(t, "LiteralVars", term.LiteralVars(pos("q", v("_"))))
}

// P4.2: structs that may not be have their terms too, in the fields that their kinds do not use.
func TestVariablesOfAnyStruct(t *testing.T) {
	wantNames(t, "AtomVars", term.AtomVars(api.Atom{}))
	wantNames(t, "ExprVars", term.ExprVars(api.Expr{}))
	wantNames(t, "LiteralVars", term.LiteralVars(api.Literal{}))
	wantNames(t, "RuleVars", term.RuleVars(api.Rule{}))
	wantNames(t, "AtomVars", term.AtomVars(api.Atom{Args: []api.Term{{Var: "x", Val: num(1)}, {Var: "_", Val: num(1)}, {}, {Var: "not"}, {Var: " "}, {Var: "x"}, {Var: "__"}}}), "x", "not", " ", "__")
	inner := api.Expr{Op: -5, Term: v("K"), Kids: []api.Expr{ex(v("L")), {Op: 99, Term: v("K"), Kids: []api.Expr{ex(v("M")), ex(v("_")), ex(v("L"))}}}}
	wantNames(t, "ExprVars", term.ExprVars(inner), "K", "L", "M")
	wantNames(t, "ExprVars", term.ExprVars(api.Expr{Term: v("M"), Kids: []api.Expr{inner}}), "M", "K", "L")
	for _, kind := range []api.LitKind{-1, api.LNone, api.LPos, api.LNot, api.LCmp, 4} {
		l := api.Literal{Kind: kind, Atom: atom("", v("C"), v("K")), Rel: 9, Left: inner, Right: api.Expr{Term: v("B"), Kids: []api.Expr{ex(v("A")), ex(v("C"))}}}
		wantNames(t, "LiteralVars", term.LiteralVars(l), "C", "K", "L", "M", "B", "A")
		r := api.Rule{Head: []api.Arg{{Agg: api.AggCount, Term: v("A")}, {Agg: -1, Term: v("Q")}, {Agg: 7, Term: v("_")}}, Body: []api.Literal{l, {Kind: 9, Left: ex(v("Z"))}}}
		wantNames(t, "RuleVars", term.RuleVars(r), "A", "Q", "C", "K", "L", "M", "B", "Z")
	}
}

// P4.2, R1: as many as there are, and as deep.
func TestVariablesOfManyTerms(t *testing.T) {
	const count = 100000
	l := names(count)
	got := term.AtomVars(api.Atom{Args: append(slices.Clone(l), l...)})
	if len(got) != count || got[0] != "X0" || got[count-1] != "X"+strconv.Itoa(count-1) {
		t.Errorf("AtomVars of %d variables tells %d", count, len(got))
	}
	const nested = 60000
	e := ex(v("X"))
	for range nested - 1 {
		e = api.Expr{Term: v("Y"), Kids: []api.Expr{e}}
	}
	wantNames(t, "ExprVars", term.ExprVars(e), "Y", "X")
	if got := term.Depth(e); got != nested {
		t.Errorf("Depth = %d, want %d", got, nested)
	}
}

// P4.2: the depth.
func TestDepth(t *testing.T) {
	wantDepth(t, api.Expr{}, 1)
	wantDepth(t, api.Expr{Op: 55, Kids: []api.Expr{}}, 1)
	wantDepth(t, op(api.OpTerm, ex(v("X"))), 2)
	wantDepth(t, api.Expr{Kids: []api.Expr{{}, deep(4), deep(7), deep(2), {}}}, 8)
	wantDepth(t, api.Expr{Kids: []api.Expr{deep(7), deep(4)}}, 8)
	wantDepth(t, api.Expr{Kids: []api.Expr{deep(4), deep(7)}}, 8)
	for depth := 1; depth < 20; depth++ {
		wantDepth(t, deep(depth), depth)
	}
}

// P4.3: the chapter's examples, and every aggregate anywhere.
func TestHead(t *testing.T) {
	q := pos("q", v("X"))
	wantHead(t, rule("p", head(v("X"), n(5)), q), atom("p", v("X"), n(5)), true)
	wantHead(t, rule("p", []api.Arg{{Agg: api.AggCount}}, q), api.Atom{}, false)
	wantHead(t, rule("p", nil, q), atom("p"), true)
	wantHead(t, api.Rule{}, api.Atom{}, true)
	wantHead(t, rule("P", head(v("_"), api.Term{}, v("x"), api.Term{Var: "X", Val: num(1)})), atom("P", v("_"), api.Term{}, v("x"), api.Term{Var: "X", Val: num(1)}), true)
	wantHead(t, rule("p", head(names(100)...)), atom("p", names(100)...), true)
	for _, agg := range []api.Agg{-128, -1, api.AggCount, api.AggSum, api.AggMin, api.AggMax, 5, 127} {
		for at := range 3 {
			r := rule("p", head(v("X"), v("Y"), n(1)), q)
			r.Head[at].Agg = agg
			wantHead(t, r, api.Atom{}, false)
		}
	}
}
