package term_test

import (
	"reflect"
	"slices"
	"strconv"
	"testing"

	"pedigree/api"
	"pedigree/term"
)

func pair(name string, x api.Term) api.Pair { return api.Pair{Var: name, Term: x} }

// plain makes an empty list nil, everywhere: the two mean the same.
func plain(r api.Rule) api.Rule {
	out := api.Rule{Pred: r.Pred, Head: append([]api.Arg(nil), r.Head...)}
	for _, l := range r.Body {
		l.Atom.Args = append([]api.Term(nil), l.Atom.Args...)
		l.Left, l.Right = plainExpr(l.Left), plainExpr(l.Right)
		out.Body = append(out.Body, l)
	}
	return out
}

func plainExpr(e api.Expr) api.Expr {
	out := api.Expr{Op: e.Op, Term: e.Term}
	for _, kid := range e.Kids {
		out.Kids = append(out.Kids, plainExpr(kid))
	}
	return out
}

func same(a, b api.Rule) bool { return reflect.DeepEqual(plain(a), plain(b)) }

func wantApply(t *testing.T, l []api.Pair, a, want api.Atom) {
	t.Helper()
	if got := term.Apply(l, a); got.Pred != want.Pred || !slices.Equal(got.Args, want.Args) {
		t.Errorf("Apply(%#v, %#v) = %#v, want %#v", l, a, got, want)
	}
}

// wantApplyRule: the zero Rule as what is wanted stands for ErrTerm.
func wantApplyRule(t *testing.T, l []api.Pair, r, want api.Rule) {
	t.Helper()
	code := errno(want.Pred != "")
	if got, e := term.ApplyRule(l, r); e != code || !same(got, want) {
		t.Errorf("ApplyRule(%#v, %#v) = %#v, %d; want %#v, %d", l, r, got, e, want, code)
	}
}

func wantCanon(t *testing.T, r, want api.Rule) {
	t.Helper()
	code := errno(want.Pred != "")
	if got, e := term.Canon(r); e != code || !same(got, want) {
		t.Errorf("Canon(%#v) = %#v, %d; want %#v, %d", r, got, e, want, code)
	}
}

// wantAlike asks both ways round.
func wantAlike(t *testing.T, a, b api.Rule, want bool) {
	t.Helper()
	if x, y := term.Alike(a, b), term.Alike(b, a); x != want || y != want {
		t.Errorf("Alike of %#v and %#v = %v, %v; want %v", a, b, x, y, want)
	}
}

// P4.4: the chapter's examples.
func TestApplyExamples(t *testing.T) {
	wantApply(t, []api.Pair{pair("X", v("Y")), pair("Y", n(5)), pair("X", n(7))}, atom("p", v("X"), v("Y"), v("Z"), v("_")), atom("p", v("Y"), n(5), v("Z"), v("_")))
	wantApplyRule(t, []api.Pair{pair("X", n(5))}, rule("p", []api.Arg{{Agg: api.AggSum, Term: v("X")}}, pos("q", v("X"))), api.Rule{})
	wantApplyRule(t, []api.Pair{pair("X", v("_"))}, rule("p", head(v("X")), pos("q", v("X"))), api.Rule{})
	wantApplyRule(t, []api.Pair{pair("X", v("_"))}, rule("p", head(v("Y")), pos("q", v("Y"), v("X"))), rule("p", head(v("Y")), pos("q", v("Y"), v("_"))))
}

// P4.4: all at one time, the first pair of a variable, and pairs that are as if they were not there.
func TestApplyPairs(t *testing.T) {
	a := atom("p", v("X"), v("Y"), v("X"), v("Z"), v("_"), n(1), s("X"))
	wantApply(t, nil, a, a)
	wantApply(t, []api.Pair{pair("X", v("Y")), pair("Y", v("Z")), pair("Z", v("X"))}, a, atom("p", v("Y"), v("Z"), v("Y"), v("X"), v("_"), n(1), s("X")))
	wantApply(t, []api.Pair{pair("X", v("X")), pair("X", n(2)), pair("Z", n(3)), pair("Z", n(4))}, a, atom("p", v("X"), v("Y"), v("X"), n(3), v("_"), n(1), s("X")))
	wantApply(t, []api.Pair{pair("", n(8)), pair("_", n(9)), pair("W", n(7)), pair("x", n(6)), pair("Y", s("b"))}, a, atom("p", v("X"), s("b"), v("X"), v("Z"), v("_"), n(1), s("X")))
	wantApply(t, []api.Pair{pair("", v("X")), pair("_", v("X")), pair("X", v("_")), pair("_", n(1))}, a, atom("p", v("_"), v("Y"), v("_"), v("Z"), v("_"), n(1), s("X")))
}

// P4.4: Apply is for every atom and all pairs.
func TestApplyOfAnyStruct(t *testing.T) {
	odd := []api.Term{{}, {Var: "X", Val: num(1)}, {Var: "x"}, {Var: "_", Val: num(2)}, {Val: api.Value{Num: 3}}, {Var: "not", Val: api.Value{Kind: 9}}, {Var: "X"}}
	wantApply(t, nil, api.Atom{}, api.Atom{})
	wantApply(t, nil, atom("P q", odd...), atom("P q", odd...))
	put := api.Term{Var: "a b", Val: num(7)}
	l := []api.Pair{pair("", put), pair("_", put), pair("X", put), pair("x", api.Term{}), pair("not", v("X"))}
	wantApply(t, l, atom("", odd...), atom("", odd[0], put, api.Term{}, odd[3], odd[4], v("X"), put))
	const count = 100000
	var many []api.Pair
	var want []api.Term
	for i := range count {
		many = append(many, pair("X"+strconv.Itoa(i), n(int64(i))))
		want = append(want, n(int64(i)))
	}
	wantApply(t, many, atom("p", names(count)...), atom("p", want...))
}

// sample is a rule in which every kind of thing has a term.
func sample(x, y, z, w api.Term) api.Rule {
	args := []api.Arg{{Term: x}, {Term: n(1)}, {Agg: api.AggCount}, {Agg: api.AggMax, Term: y}}
	left := op(api.OpAdd, op(api.OpNeg, ex(x)), op(api.OpSub, ex(n(2)), ex(z)))
	return rule("p", args, pos("q", x, y, w, s("X")), not("r", y, v("_"), z), cmp(left, api.RelLe, op(api.OpLen, ex(y))), cmp(ex(z), api.RelEq, ex(x)), pos("r"))
}

// P4.4: a rule's terms, each of them.
func TestApplyRule(t *testing.T) {
	x, y, z, w := v("X"), v("Y"), v("Z"), v("W")
	r := sample(x, y, z, w)
	wantApplyRule(t, nil, r, r)
	wantApplyRule(t, []api.Pair{pair("X", y), pair("Y", z), pair("Z", x), pair("X", n(9)), pair("", n(8)), pair("_", n(7))}, r, sample(y, z, x, w))
	wantApplyRule(t, []api.Pair{pair("X", n(9)), pair("Z", s("")), pair("W", v("_"))}, r, sample(n(9), y, s(""), v("_")))
	wantApplyRule(t, []api.Pair{pair("X", y), pair("Z", y), pair("W", y)}, r, sample(y, y, y, y))
	for _, bad := range []api.Pair{pair("Y", n(1)), pair("Y", v("_")), pair("X", v("_")), pair("Z", v("_")), pair("W", v("x")), pair("W", api.Term{}), pair("X", api.Term{Var: "X", Val: num(1)}), pair("Z", v(longest("Z", most+1)))} {
		wantApplyRule(t, []api.Pair{bad}, r, api.Rule{})
		wantApplyRule(t, []api.Pair{pair("V", n(1)), bad}, r, api.Rule{})
	}
	wantApplyRule(t, []api.Pair{pair("V", v("x")), pair("q", api.Term{})}, r, r)
}

// badRules may not be, each for another reason.
func badRules() []api.Rule {
	return []api.Rule{{}, rule("P", nil), rule("not", nil), rule("p", head(v("_"))), rule("p", head(v("x"))), rule("p", head(api.Term{})), rule("p", []api.Arg{{Agg: 5, Term: v("X")}}), rule("p", []api.Arg{{Agg: -1, Term: v("X")}}),
		rule("p", []api.Arg{{Agg: api.AggMin, Term: n(1)}}), rule("p", []api.Arg{{Agg: api.AggCount, Term: v("X")}}), rule("p", nil, api.Literal{}), rule("p", nil, api.Literal{Kind: 4, Atom: atom("p")}), rule("p", nil, pos("q", v("x"))), rule("p", nil, pos("Q")),
		rule("p", nil, cmp(ex(v("_")), api.RelEq, ex(v("X")))), rule("p", nil, cmp(ex(v("X")), 7, ex(v("X")))), rule("p", nil, cmp(ex(v("X")), -1, ex(v("X")))), rule("p", nil, cmp(deep(9), api.RelEq, ex(v("X")))), rule("p", nil, cmp(op(11, ex(v("X"))), api.RelEq, ex(v("X")))),
		rule("p", head(names(25)...)), rule("p", head(names(24)...), pos("q", v("Y"))), rule("p", nil, slices.Repeat([]api.Literal{pos("q")}, 17)...), rule("p", nil, api.Literal{Kind: api.LPos, Atom: atom("q"), Left: ex(v("X"))})}
}

// P4.4, P4.8: a rule that may not be stays none, even if what comes out would be one.
func TestRulesThatMayNotBe(t *testing.T) {
	good := rule("p", head(v("X")), pos("q", v("X")))
	for _, r := range badRules() {
		wantApplyRule(t, nil, r, api.Rule{})
		wantApplyRule(t, []api.Pair{pair("X", v("Y")), pair("x", v("X")), pair("_", v("X")), pair("", v("X")), pair("X24", v("X0")), pair("Y", v("X0"))}, r, api.Rule{})
		wantCanon(t, r, api.Rule{})
		wantAlike(t, r, r, false)
		wantAlike(t, r, good, false)
	}
	wantAlike(t, good, good, true)
}

// P4.8: the chapter's examples.
func TestCanonExamples(t *testing.T) {
	wantCanon(t, rule("p", head(v("Y"), v("X")), pos("q", v("X"), v("V0")), cmp(ex(v("V0")), api.RelLt, ex(v("Y")))), rule("p", head(v("V0"), v("V1")), pos("q", v("V1"), v("V2")), cmp(ex(v("V2")), api.RelLt, ex(v("V0")))))
	first := rule("p", head(v("X")), pos("q", v("X"), v("Y")))
	wantAlike(t, first, rule("p", head(v("Y")), pos("q", v("Y"), v("X"))), true)
	wantAlike(t, first, rule("p", head(v("X")), pos("q", v("X"), v("X"))), false)
}

// P4.8: every kind of thing, V0 and V1 the other way round, and as many variables as there may be.
func TestCanon(t *testing.T) {
	want := sample(v("V0"), v("V1"), v("V3"), v("V2"))
	wantCanon(t, sample(v("X"), v("Y"), v("Z"), v("W")), want)
	wantCanon(t, sample(v("V1"), v("V0"), v("V2"), v("V3")), want)
	wantCanon(t, want, want)
	wantCanon(t, sample(v("X"), v("Y"), n(3), v("_")), sample(v("V0"), v("V1"), n(3), v("_")))
	wantCanon(t, rule("p", nil), rule("p", nil))
	var numbered []api.Term
	for i := range api.MaxVars {
		numbered = append(numbered, v("V"+strconv.Itoa(i)))
	}
	back := slices.Clone(numbered)
	slices.Reverse(back)
	wantCanon(t, rule("p", head(names(24)...), pos("q", back[0])), api.Rule{})
	wantCanon(t, rule("p", head(names(24)...)), rule("p", head(numbered...)))
	wantCanon(t, rule("p", head(back...), pos("q", numbered...)), rule("p", head(numbered...), pos("q", back...)))
	wantCanon(t, rule("p", nil, pos("q", v("V00"), v("V1"), v("V01"))), rule("p", nil, pos("q", v("V0"), v("V1"), v("V2"))))
}

// others are rules that are not Alike the sample of the same variables: each differs in one thing.
func others() []api.Rule {
	x, y, z, w := v("X"), v("Y"), v("Z"), v("W")
	turn := func(do func(r *api.Rule)) api.Rule {
		r := sample(x, y, z, w)
		do(&r)
		return r
	}
	return []api.Rule{
		sample(x, x, z, w), sample(x, y, x, w), sample(x, y, z, z), sample(n(1), y, z, w), sample(x, y, z, v("_")),
		turn(func(r *api.Rule) { r.Pred = "pp" }),
		turn(func(r *api.Rule) { r.Head[1].Term = n(2) }),
		turn(func(r *api.Rule) { r.Head[1].Term = s("1") }),
		turn(func(r *api.Rule) { r.Head[3].Agg = api.AggMin }),
		turn(func(r *api.Rule) { r.Head[3].Agg = api.AggNone }),
		turn(func(r *api.Rule) { r.Head = r.Head[:3] }),
		turn(func(r *api.Rule) { r.Body = r.Body[:4] }),
		turn(func(r *api.Rule) { r.Body[0], r.Body[1] = r.Body[1], r.Body[0] }),
		turn(func(r *api.Rule) { r.Body[0].Kind = api.LNot }),
		turn(func(r *api.Rule) { r.Body[0].Atom.Pred = "r" }),
		turn(func(r *api.Rule) { r.Body[0].Atom.Args = r.Body[0].Atom.Args[:3] }),
		turn(func(r *api.Rule) { r.Body[0].Atom.Args[3] = s("Y") }),
		turn(func(r *api.Rule) { r.Body[2].Rel = api.RelLt }),
		turn(func(r *api.Rule) { r.Body[2].Left.Op = api.OpMul }),
		turn(func(r *api.Rule) { r.Body[2].Left.Kids[0].Kids[0].Term = z }),
		turn(func(r *api.Rule) { r.Body[2].Left.Kids[1].Kids[0].Term = n(3) }),
		turn(func(r *api.Rule) { r.Body[2].Right.Op = api.OpChars }),
		turn(func(r *api.Rule) { r.Body[2].Right.Kids[0].Term = x }),
		turn(func(r *api.Rule) { r.Body[2].Right = ex(n(1)) }),
		turn(func(r *api.Rule) { r.Body[3].Left.Term = y }),
		turn(func(r *api.Rule) { r.Body[3].Left, r.Body[3].Right = r.Body[3].Right, r.Body[3].Left }),
	}
}

// P4.8, P4.9: unlike variables by unlike ones, and each thing that may differ.
func TestAlike(t *testing.T) {
	first := sample(v("X"), v("Y"), v("Z"), v("W"))
	wantAlike(t, first, first, true)
	wantAlike(t, first, sample(v("Y"), v("Z"), v("W"), v("X")), true)
	wantAlike(t, first, sample(v("V3"), v("V2"), v("V1"), v("V0")), true)
	for i, r := range others() {
		if term.CheckRule(r) != api.OK {
			t.Fatalf("rule %d of the others may not be", i)
		}
		wantAlike(t, first, r, false)
		wantAlike(t, r, r, true)
	}
	wantAlike(t, rule("p", nil), api.Rule{Pred: "p", Head: []api.Arg{}, Body: []api.Literal{}}, true)
}
