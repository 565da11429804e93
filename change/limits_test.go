package change_test

import (
	"slices"
	"strconv"
	"strings"
	"testing"

	"pedigree/api"
)

// roundTrip takes facts out of a view one by one and puts them back, each time held against a slow view.
func roundTrip(t *testing.T, p api.Program, l []api.Fact) {
	t.Helper()
	x, s := mustNew(t, p, l), newSlow(t, p, l)
	for _, f := range l {
		both(t, x, s, nil, []api.Fact{f})
		both(t, x, s, []api.Fact{f}, nil)
	}
	both(t, x, s, nil, l)
	both(t, x, s, l, nil)
}

// P24.5, P24.6: names as long as they may be, that differ in one byte; and such as a view might choose for itself.
func TestNames(t *testing.T) {
	long := strings.Repeat("q", api.MaxLong-1)
	rules := "A(X) :- B(X), not C(X). D(X, count()) :- A(X), B(Y). A(X) :- E(X). E(X) :- A(X). F(X) :- D(X, _), not E(2)."
	facts := "B(1). B(2). C(2). E(3). A(4). D(9, 9)."
	for _, names := range [][]string{
		{long + "a", long + "b", long + "c", long + "d", long + "e", long + "f"},
		{"s0", "t0", "b0", "c0_0", "w0", "f0"},
		{"g0", "s1", "t1", "c1", "t2", "s2"},
		{"q_s", "q_m_b_a", "t00", "s_0", "c0_0_0", "b1"},
	} {
		var pairs []string
		for i, name := range names {
			pairs = append(pairs, string(rune('A'+i))+"(", name+"(")
		}
		replace := strings.NewReplacer(pairs...)
		roundTrip(t, programOf(t, replace.Replace(rules)), factsOf(t, replace.Replace(facts)))
	}
}

// wideRule is one of as many literals, columns and variables as may be: with nots, comparisons and its own predicate among them.
func wideRule() api.Rule {
	var vars []api.Term
	for i := range api.MaxVars {
		vars = append(vars, v("V"+strconv.Itoa(i)))
	}
	r := api.Rule{Pred: "wide", Head: head(vars...)}
	r.Body = append(r.Body, lit(api.LPos, "all", vars...), lit(api.LPos, "wide", slices.Repeat([]api.Term{v("_")}, api.MaxWide)...))
	for i := range 6 {
		r.Body = append(r.Body, lit(api.LPos, "e", vars[i], v("_")), lit(api.LNot, "f", v("_"), vars[i]))
	}
	r.Body = append(r.Body, cmp(ex(vars[0]), api.RelLe, ex(vars[1])), lit(api.LNot, "g"))
	return r
}

// P24.5, P24.6: rules as large as they may be.
func TestWideRules(t *testing.T) {
	r := wideRule()
	if len(r.Body) != api.MaxBody || len(r.Head) != api.MaxWide {
		t.Fatalf("%d literals, %d columns", len(r.Body), len(r.Head))
	}
	back := api.Rule{Pred: "wide", Head: r.Head, Body: []api.Literal{lit(api.LPos, "more", r.Body[0].Atom.Args...)}}
	some := func(name string, first, second int) api.Fact {
		return nums(name, append([]int{first, second}, slices.Repeat([]int{1}, api.MaxWide-2)...)...)
	}
	l := []api.Fact{some("all", 1, 1), some("all", 2, 3), some("all", 3, 2), some("wide", 0, 0), some("more", 1, 1)}
	l = append(l, factsOf(t, "e(1, 1). e(1, 2). e(2, 1). e(3, 1). f(5, 5).")...)
	roundTrip(t, api.Program{Rules: []api.Rule{r, back}}, l)
	p := api.Program{Rules: []api.Rule{r, back}}
	x, s := mustNew(t, p, l), newSlow(t, p, l)
	for _, c := range [][2]string{{"f(7, 2).", ""}, {"f(8, 2). g.", ""}, {"", "f(7, 2)."}, {"f(1, 1).", "g."}, {"", "f(8, 2). f(1, 1)."}} {
		both(t, x, s, factsOf(t, c[0]), factsOf(t, c[1]))
	}
	if d := mustTurn(t, x, factsOf(t, "g."), nil); len(d.Removed) != 1 || len(x.Doubted()) != 2 {
		t.Errorf("%s went, doubted were %s", show(d.Removed), show(x.Doubted()))
	}
}

// R1, P24.5: very many predicates and rules, one asking for the other, in the order in which that is hardest.
func TestManyRules(t *testing.T) {
	const many = 4000
	p := api.Program{}
	for i := range many {
		name, next := "p"+strconv.Itoa(many-i), "p"+strconv.Itoa(many-i-1)
		p.Rules = append(p.Rules, api.Rule{Pred: name, Head: head(v("X")), Body: []api.Literal{lit(api.LPos, next, v("X"))}})
	}
	x := mustNew(t, p, factsOf(t, "p0(1). p2000(2)."))
	d := mustTurn(t, x, factsOf(t, "p0(3)."), factsOf(t, "p0(1)."))
	if len(d.Added) != many+1 || len(d.Removed) != many+1 || len(x.Doubted()) != many+1 || len(x.Facts()) != many+1+many/2+1 {
		t.Errorf("%d came, %d went, %d were doubted", len(d.Added), len(d.Removed), len(x.Doubted()))
	}
	d = mustTurn(t, x, factsOf(t, "p4000(5)."), factsOf(t, "p0(1)."))
	if told(d, x) != "p4000(5). |  | " {
		t.Errorf("%s", told(d, x))
	}
}

// P24.5: many facts that no rule asks for, and a few that one does.
func TestManyFacts(t *testing.T) {
	var l []api.Fact
	for i := range 8000 {
		l = append(l, nums("stock", i, i%7), nums("other", i))
	}
	x := mustNew(t, programOf(t, "low(X) :- stock(X, N), N < 2, not off(X)."), l)
	for i := range 10 {
		f := nums("stock", 7*i, 0)
		d := mustTurn(t, x, []api.Fact{nums("off", 7*i+1), nums("other", -i-1)}, []api.Fact{f})
		if len(d.Added) != 2 || len(d.Removed) != 3 || show(x.Doubted()) != show(d.Removed) {
			t.Fatalf("%d: %s", i, told(d, x))
		}
	}
}
