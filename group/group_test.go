package group_test

import (
	"fmt"
	"slices"
	"strconv"
	"strings"
	"testing"

	"pedigree/api"
	"pedigree/group"
	"pedigree/parse"
	"pedigree/value"
)

func num(n int64) api.Value { return api.Value{Kind: api.KNum, Num: n} }

func text(s string) api.Value { return api.Value{Kind: api.KText, Text: s} }

func fact(pred string, l ...api.Value) api.Fact { return api.Fact{Pred: pred, Args: l} }

// nums is a fact of numbers.
func nums(pred string, l ...int64) api.Fact {
	f := api.Fact{Pred: pred}
	for _, n := range l {
		f.Args = append(f.Args, num(n))
	}
	return f
}

func v(name string) api.Term { return api.Term{Var: name} }

func ex(t api.Term) api.Expr { return api.Expr{Term: t} }

func op(o api.Op, kids ...api.Expr) api.Expr { return api.Expr{Op: o, Kids: kids} }

func pos(pred string, l ...api.Term) api.Literal {
	return api.Literal{Kind: api.LPos, Atom: api.Atom{Pred: pred, Args: l}}
}

func cmp(left api.Expr, rel api.Rel, right api.Expr) api.Literal {
	return api.Literal{Kind: api.LCmp, Rel: rel, Left: left, Right: right}
}

func head(l ...api.Term) []api.Arg {
	var out []api.Arg
	for _, t := range l {
		out = append(out, api.Arg{Term: t})
	}
	return out
}

func count() api.Arg { return api.Arg{Agg: api.AggCount} }

func sum(name string) api.Arg { return api.Arg{Agg: api.AggSum, Term: v(name)} }

// many are so many unlike variables.
func many(count int) []api.Term {
	var out []api.Term
	for i := range count {
		out = append(out, v("V"+strconv.Itoa(i)))
	}
	return out
}

// wide is a fact of so many numbers.
func wide(pred string, columns int) api.Fact {
	f := api.Fact{Pred: pred}
	for i := range columns {
		f.Args = append(f.Args, num(int64(i)))
	}
	return f
}

func ruleOf(t *testing.T, source string) api.Rule {
	t.Helper()
	r, fault := parse.Rule(source)
	if (fault != api.Fault{}) {
		t.Fatalf("%s: %v", source, fault)
	}
	return r
}

func factsOf(t *testing.T, source string) []api.Fact {
	t.Helper()
	l, fault := parse.Facts(source)
	if (fault != api.Fault{}) {
		t.Fatalf("%s: %v", source, fault)
	}
	return l
}

// showFact writes a fact as a source has it, without the dot.
func showFact(f api.Fact) string {
	var out []string
	for _, v := range f.Args {
		s, _ := value.Show(v)
		out = append(out, s)
	}
	if len(out) == 0 {
		return f.Pred
	}
	return f.Pred + "(" + strings.Join(out, ", ") + ")"
}

// show writes facts as a row of a test has them.
func show(l []api.Fact) string {
	var out []string
	for _, f := range l {
		out = append(out, showFact(f))
	}
	return strings.Join(out, ", ")
}

// brief writes a thing for a message, which has no room for very long ones.
func brief(x any) string {
	out := fmt.Sprint(x)
	if len(out) > 800 {
		return out[:800] + " .."
	}
	return out
}

func wantGives(t *testing.T, r api.Rule, l []api.Fact, want string) {
	t.Helper()
	if got, err := group.Gives(r, l); err != api.OK || show(got) != want {
		t.Errorf("Gives(%s, %s) = %s, %d; want %s", brief(r), brief(show(l)), brief(show(got)), err, brief(want))
	}
}

type row struct{ rule, want string }

func wantRows(t *testing.T, facts string, rows []row) {
	t.Helper()
	l := factsOf(t, facts)
	for _, row := range rows {
		if got, err := group.Gives(ruleOf(t, row.rule), l); err != api.OK || show(got) != row.want {
			t.Errorf("%s gives %s, %d; want %s", row.rule, brief(show(got)), err, row.want)
		}
	}
}

const pay = "pay(a, 3, 1). pay(a, 3, 2). pay(a, 5, 1). pay(b, 7, 9). pay(c, x, 1)."

// P16.2: the chapter's examples.
func TestExamples(t *testing.T) {
	wantRows(t, pay, []row{
		{"n(P, count()) :- pay(P, S, M).", "n(a, 3), n(b, 1), n(c, 1)"},
		{"n(P, count()) :- pay(P, S, _).", "n(a, 2), n(b, 1), n(c, 1)"},
		{"n(count()) :- pay(_, _, _).", "n(1)"},
		{"t(P, sum(S)) :- pay(P, S, M).", "t(a, 11), t(b, 7)"},
		{"t(sum(S), P, max(M), count()) :- pay(P, S, M).", "t(7, b, 9, 1), t(11, a, 2, 3)"},
		{"m(min(S), max(S)) :- pay(_, S, _).", "m(3, x)"},
		{"n(count()) :- pay(d, S, M).", ""},
		{"s(sum(S)) :- pay(P, S, M), S < 9.", "s(18)"},
	})
	for _, l := range [][]api.Fact{nil, factsOf(t, pay)} {
		wantGives(t, api.Rule{Pred: "k", Head: append(head(api.Term{Val: num(5)}), count())}, l, "k(5, 1)")
	}
}

// P16.2: DOC.md's fourth example: two solutions with one S are two.
func TestExampleOfTheWhole(t *testing.T) {
	wantRows(t, "sold(east, 1, 10). sold(east, 2, 10). sold(west, 3, -4).", []row{
		{"sales(D, count(), sum(S), max(S)) :- sold(D, P, S).", "sales(east, 2, 20, 10), sales(west, 1, -4, -4)"},
		{"sales(D, count(), sum(S), max(S)) :- sold(D, _, S).", "sales(east, 1, 10, 10), sales(west, 1, -4, -4)"},
	})
}

// P16.2: heads without plain arguments, with several aggregates, with aggregates ahead of plain arguments, between them and behind them, with one variable in several places.
func TestHeads(t *testing.T) {
	wantRows(t, "e(1, 2). e(1, 4). e(2, 4). e(3, a). e(b, 1).", []row{
		{"n(count()) :- e(X, Y).", "n(5)"},
		{"n(count(), count()) :- e(X, Y).", "n(5, 5)"},
		{"n(min(X), max(X), min(Y), max(Y), count()) :- e(X, Y).", "n(1, b, 1, a, 5)"},
		{"n(X, count()) :- e(X, Y).", "n(1, 2), n(2, 1), n(3, 1), n(b, 1)"},
		{"n(count(), X) :- e(X, Y).", "n(1, 2), n(1, 3), n(1, b), n(2, 1)"},
		{"n(Y, count(), min(X)) :- e(X, Y).", "n(1, 1, b), n(2, 1, 1), n(4, 2, 1), n(a, 1, 3)"},
		{"n(max(X), Y, count()) :- e(X, Y).", "n(1, 2, 1), n(2, 4, 2), n(3, a, 1), n(b, 1, 1)"},
		{"n(X, count(), Y) :- e(X, Y).", "n(1, 1, 2), n(1, 1, 4), n(2, 1, 4), n(3, 1, a), n(b, 1, 1)"},
		{"n(X, X, count()) :- e(X, Y).", "n(1, 1, 2), n(2, 2, 1), n(3, 3, 1), n(b, b, 1)"},
		{"n(X, sum(X), min(X), max(X)) :- e(X, Y).", "n(1, 2, 1, 1), n(2, 2, 2, 2), n(3, 3, 3, 3)"},
		{"n(sum(X), sum(X), min(X)) :- e(X, Y), X < 9.", "n(7, 7, 1)"},
		{"n(7, count(), z) :- e(X, Y).", "n(7, 5, z)"},
		{"n(7, X, count()) :- e(X, 4).", "n(7, 1, 1), n(7, 2, 1)"},
		{"n(7, sum(Y)) :- e(1, Y).", "n(7, 6)"},
		{"e(X, count()) :- e(X, Y), X < 3.", "e(1, 2), e(2, 1)"},
		{"e(max(X), min(X)) :- e(X, _).", "e(b, 1)"},
	})
}

// P16.2: what a body's literals leave: atoms that meet, nots, comparisons, equations and the values that these give.
func TestBodies(t *testing.T) {
	wantRows(t, "e(1, 2). e(2, 3). e(3, 1). e(1, 3). f(2). g.", []row{
		{"n(count()) :- e(X, Y), e(Y, Z).", "n(5)"},
		{"n(X, count()) :- e(X, Y), e(Y, Z).", "n(1, 2), n(2, 1), n(3, 2)"},
		{"n(X, count()) :- e(X, Y), e(Y, _).", "n(1, 2), n(2, 1), n(3, 1)"},
		{"n(X, sum(Z)) :- e(X, Y), e(Y, Z).", "n(1, 4), n(2, 1), n(3, 5)"},
		{"n(X, sum(Y)) :- e(X, Y), not f(Y).", "n(1, 3), n(2, 3), n(3, 1)"},
		{"n(count()) :- e(X, Y), X < Y.", "n(3)"},
		{"n(count()) :- e(X, X).", ""},
		{"n(sum(Z)) :- e(X, Y), Z = X * Y.", "n(14)"},
		{"n(sum(X), sum(Z)) :- e(X, Y), Z = X - Y.", "n(7, -2)"},
		{"n(Z, count()) :- e(X, Y), Z = X + Y.", "n(3, 1), n(4, 2), n(5, 1)"},
		{"n(Z, min(X), max(Y)) :- e(X, Y), Z = X + Y.", "n(3, 1, 2), n(4, 1, 3), n(5, 2, 3)"},
		{"n(X, sum(Z)) :- e(X, Y), Z = 6 / (Y - 2).", "n(1, 6), n(2, 6), n(3, -6)"},
		{"n(sum(Z)) :- Z = 5.", "n(5)"},
		{"n(sum(Z), max(Y)) :- Z = Y + 1, Y = 5.", "n(6, 5)"},
		{"n(sum(Z)) :- Z = 1 / 0.", ""},
		{"n(max(Z)) :- e(X, _), X = Z.", "n(3)"},
		{"n(count()) :- g.", "n(1)"},
		{"n(count()) :- not g.", ""},
		{"n(count()) :- not h, not f(3).", "n(1)"},
		{"n(count()) :- ghost(X).", ""},
		{"n(count()) :- ghost(_).", ""},
		{"n(X, count()) :- e(X, Y), ghost(Y).", ""},
		{"n(count()) :- f(X), f(Y), e(X, Z), e(_, Z).", "n(1)"},
		{"n(count()) :- 1 < 2.", "n(1)"},
		{"n(count()) :- 2 < 1.", ""},
		{"n(count()) :- n(X).", ""},
	})
	wantRows(t, "", []row{
		{"n(count()) :- e(X, Y).", ""},
		{"n(X, sum(Y)) :- e(X, Y).", ""},
		{"n(count()) :- not e(1, 2).", "n(1)"},
		{"n(count()).", "n(1)"},
		{"n(count(), a, count(), -3).", "n(1, a, 1, -3)"},
		{"n(min(X)) :- X = a.", "n(a)"},
	})
}

// P16.2: blanks are no variables: facts that differ in their columns alone make one solution.
func TestBlanks(t *testing.T) {
	wantRows(t, "e(1, 2, 5). e(1, 2, 6). e(1, 3, 5). e(2, 2, 2). f(1). f(2).", []row{
		{"n(count()) :- e(_, _, _).", "n(1)"},
		{"n(count()) :- e(_, _, X).", "n(3)"},
		{"n(count()) :- e(X, _, _).", "n(2)"},
		{"n(X, count(), sum(Y)) :- e(X, Y, _).", "n(1, 2, 5), n(2, 1, 2)"},
		{"n(X, count(), sum(Y)) :- e(X, _, Y).", "n(1, 2, 11), n(2, 1, 2)"},
		{"n(X, count(), sum(Y)) :- e(X, Y, Z).", "n(1, 3, 7), n(2, 1, 2)"},
		{"n(count()) :- f(_), e(X, Y, Z).", "n(4)"},
		{"n(count()) :- f(W), e(X, Y, Z).", "n(8)"},
		{"n(count()) :- f(X), not e(_, X, 5).", "n(1)"},
		{"n(sum(X)) :- e(_, X, _), e(X, _, _).", "n(2)"},
	})
}

// P16.2: sums wrap, as OpAdd has it, and come to nothing where one value is no number, whatever the others are.
func TestSums(t *testing.T) {
	wantRows(t, "q(9223372036854775807). q(2).", []row{{"s(sum(X)) :- q(X).", "s(-9223372036854775807)"}})
	wantRows(t, "q(1, 9223372036854775807). q(2, 9223372036854775807). q(3, 2). q(4, -9223372036854775808). q(5, -1).", []row{
		{"s(sum(X)) :- q(_, X).", "s(0)"},
		{"s(sum(X)) :- q(I, X).", "s(9223372036854775807)"},
		{"s(sum(X)) :- q(I, X), I < 4.", "s(0)"},
		{"s(sum(X)) :- q(I, X), I > 3.", "s(9223372036854775807)"},
		{"s(sum(X), sum(I)) :- q(I, X), I < 3.", "s(-2, 3)"},
	})
	wantRows(t, `q(a, 1). q(a, 2). q(b, 0). q(b, ""). q(c, x). q(d, x). q(d, 5). q(e, -3). q(e, 3).`, []row{
		{"s(P, sum(X)) :- q(P, X).", "s(a, 3), s(e, 0)"},
		{"s(sum(X)) :- q(P, X).", ""},
		{"s(sum(X)) :- q(d, X).", ""},
		{"s(sum(X)) :- q(c, X).", ""},
		{"s(sum(P)) :- q(P, X).", ""},
		{"s(P, sum(X), count()) :- q(P, X).", "s(a, 3, 2), s(e, 0, 2)"},
		{"s(count(), P, sum(X)) :- q(P, X).", "s(2, a, 3), s(2, e, 0)"},
		{"s(P, min(X), sum(X), max(X)) :- q(P, X).", "s(a, 1, 3, 2), s(e, -3, 0, 3)"},
		{"s(P, sum(X), sum(P)) :- q(P, X).", ""},
		{"s(P, sum(P), min(X)) :- q(P, X).", ""},
		{"s(P, min(X), max(X)) :- q(P, X).", `s(a, 1, 2), s(b, 0, ""), s(c, x, x), s(d, 5, x), s(e, -3, 3)`},
		{"s(P, count()) :- q(P, X).", "s(a, 2), s(b, 2), s(c, 1), s(d, 2), s(e, 2)"},
		{"s(P, sum(X)) :- q(P, X), X < 9.", "s(a, 3), s(b, 0), s(d, 5), s(e, 0)"},
	})
}

// P16.2: the least and the greatest, by the order of values: numbers by size and below texts, texts byte by byte.
func TestLeastAndGreatest(t *testing.T) {
	wantRows(t, `q(a, 10). q(a, 9). q(a, -11). q(b, "10"). q(b, "9"). q(b, ""). q(c, ab). q(c, b). q(c, a). q(c, "B"). q(d, "-1"). q(d, 7). q(e, "\xff"). q(e, z). q(f, 9223372036854775807). q(f, -9223372036854775808).`, []row{
		{"m(P, min(X), max(X)) :- q(P, X).", `m(a, -11, 10), m(b, "", "9"), m(c, "B", b), m(d, 7, "-1"), m(e, z, "\xff"), m(f, -9223372036854775808, 9223372036854775807)`},
		{"m(min(X), max(X)) :- q(_, X).", `m(-9223372036854775808, "\xff")`},
		{"m(min(P), max(P), min(X)) :- q(P, X), X < 9.", "m(a, f, -9223372036854775808)"},
		{"m(max(X)) :- q(a, X).", "m(10)"},
		{"m(min(X)) :- q(a, X).", "m(-11)"},
	})
}

// P16.2: facts that stand twice, and in another order, and facts that the body does not ask for.
func TestFactsTwice(t *testing.T) {
	wantRows(t, pay+" p(1). z(a, 3). p(2). "+pay, []row{
		{"n(P, count()) :- pay(P, S, M).", "n(a, 3), n(b, 1), n(c, 1)"},
		{"t(P, sum(S)) :- pay(P, S, M).", "t(a, 11), t(b, 7)"},
	})
	l := factsOf(t, pay)
	slices.Reverse(l)
	wantGives(t, ruleOf(t, "t(sum(S), P, max(M), count()) :- pay(P, S, M)."), append(l, l...), "t(7, b, 9, 1), t(11, a, 2, 3)")
}

// P16.2, P16.3: groups are told apart, however alike their values look when they are written.
func TestGroupsThatLookAlike(t *testing.T) {
	l := []api.Fact{
		fact("e", num(1), text("2")), fact("e", text("1"), num(2)), fact("e", text("1"), text("2")), fact("e", num(1), num(2)), fact("e", num(12), text("")),
		fact("e", text("a, b"), text("c")), fact("e", text("a"), text("b, c")), fact("e", text(`a", "b`), text("c")), fact("e", text("a"), text(`b", "c`)),
		fact("e", text("a,"), text("")), fact("e", text("a"), text(",")), fact("e", text(`\x00`), text("\x00")), fact("e", text(" "), text("\n")),
		fact("e", text(""), text("")), fact("e", num(0), text("")), fact("e", text(""), num(0)), fact("e", num(0), num(0)), fact("e", num(-1), num(2)), fact("e", num(1), num(-2)),
		fact("e", num(1), num(23)), fact("e", num(12), num(3)), fact("e", text("a"), text("bc")), fact("e", text("ab"), text("c")), fact("e", num(1), text("a")),
	}
	got, err := group.Gives(ruleOf(t, "n(X, Y, count()) :- e(X, Y)."), l)
	if err != api.OK || len(got) != len(l) {
		t.Fatalf("Gives: %s, %d", show(got), err)
	}
	for i, f := range value.Facts(l) {
		if showFact(got[i]) != showFact(fact("n", f.Args[0], f.Args[1], num(1))) {
			t.Errorf("%s: %s", showFact(f), showFact(got[i]))
		}
	}
}

// P16.2, R1: as many columns, literals, variables and bytes as there may be.
func TestWideRules(t *testing.T) {
	long := "e" + strings.Repeat("a", 119)
	r := api.Rule{Pred: "r" + long[1:], Head: append(head(many(23)...), count()), Body: slices.Repeat([]api.Literal{pos(long, many(24)...)}, 16)}
	want := wide(r.Pred, 24)
	want.Args[23] = num(1)
	wantGives(t, r, []api.Fact{wide(long, 24)}, showFact(want))
	other := wide(long, 24)
	other.Args[23] = text("a")
	want.Args[23] = num(2)
	wantGives(t, r, []api.Fact{wide(long, 24), other}, showFact(want))
	r.Head = nil
	for _, x := range many(24) {
		r.Head = append(r.Head, sum(x.Var))
	}
	wantGives(t, r, []api.Fact{wide(long, 24)}, showFact(wide(r.Pred, 24)))
	wantGives(t, r, []api.Fact{wide(long, 24), other}, "")
	wantGives(t, api.Rule{Pred: "q_r", Head: slices.Repeat([]api.Arg{count()}, 24)}, nil, showFact(nums("q_r", slices.Repeat([]int64{1}, 24)...)))
	most, half := text(strings.Repeat("z", 200)), text(strings.Repeat("z", 100))
	wantGives(t, ruleOf(t, "m(max(Y), min(X), count()) :- w(X), Y = X & X."), []api.Fact{fact("w", half), fact("w", most)}, showFact(fact("m", most, half, num(1))))
	deep := ex(v("X"))
	for range 7 {
		deep = op(api.OpNeg, deep)
	}
	wantGives(t, api.Rule{Pred: "p", Head: []api.Arg{sum("Y")}, Body: []api.Literal{pos("n", v("X")), cmp(ex(v("Y")), api.RelEq, deep)}}, []api.Fact{nums("n", 5), nums("n", 6)}, "p(-11)")
}

// P16.2: many facts, in few groups and in many.
func TestManyFacts(t *testing.T) {
	const most = 60000
	var l []api.Fact
	for i := range int64(most) {
		l = append(l, nums("e", i*7919%most, i*7919%most%3, 1))
	}
	wantGives(t, ruleOf(t, "n(Y, count(), min(X), max(X)) :- e(X, Y, _)."), l, "n(0, 20000, 0, 59997), n(1, 20000, 1, 59998), n(2, 20000, 2, 59999)")
	wantGives(t, ruleOf(t, "n(sum(X)) :- e(X, _, _)."), l, "n(1799970000)")
	var want []api.Fact
	for i := range int64(most) {
		want = append(want, nums("n", 1, i, i%3))
	}
	wantGives(t, ruleOf(t, "n(count(), X, sum(Y)) :- e(X, Y, _)."), l, show(want))
}
