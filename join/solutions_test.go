package join_test

import (
	"slices"
	"strings"
	"testing"

	"pedigree/api"
	"pedigree/join"
)

func wantSolutions(t *testing.T, body []api.Literal, l []api.Fact, want string) {
	t.Helper()
	got, err := join.Solutions(body, l)
	if err != api.OK || showBinds(got) != want {
		t.Errorf("Solutions(%s, %s) = %s, %d; want %s", brief(body), brief(show(l)), brief(showBinds(got)), err, brief(want))
	}
}

func wantNone(t *testing.T, body []api.Literal, l []api.Fact, code api.Errno) {
	t.Helper()
	if got, err := join.Solutions(body, l); err != code || len(got) != 0 {
		t.Errorf("Solutions(%s, %s) = %s, %d; want %d and nothing else", brief(body), brief(l), brief(showBinds(got)), err, code)
	}
}

// P13.6: the chapter's examples.
func TestSolutionsExamples(t *testing.T) {
	l := factsOf(t, "e(2, 3). e(1, 2). e(2, 1). e(1, 2).")
	wantSolutions(t, bodyOf(t, "e(X, Y), X < Y, Z = X + Y"), l, "(X=1 Y=2 Z=3) (X=2 Y=3 Z=5)")
	wantSolutions(t, bodyOf(t, "e(1, _)"), l, "()")
	wantSolutions(t, bodyOf(t, "e(9, _)"), l, "")
	wantSolutions(t, nil, l, "()")
	wantSolutions(t, bodyOf(t, "Z = 1 / 0"), l, "")
	wantSolutions(t, bodyOf(t, "e(2, Y), Y = Z"), l, "(Y=1 Z=1) (Y=3 Z=3)")
	wantNone(t, bodyOf(t, "not e(X, 1)"), nil, api.ErrSafe)
	wantNone(t, bodyOf(t, "e(X, Y)"), factsOf(t, "e(1). e(1, 2)."), api.ErrArity)
}

// P13.6: bodies of all kinds over one list of facts.
func TestSolutions(t *testing.T) {
	l := factsOf(t, `n(2). n(1). n(10). n(b). n(""). n(1). e(2, 1). e(1, 2). e(1, 1). e(b, 10). g. t(1, 1, 2). t(1, 2, 2). t(2, 2, 2). t(1, 1, 2). p(4). p(3).`)
	for _, row := range []struct{ body, want string }{
		{"", "()"},
		{"g", "()"},
		{"h", ""},
		{"not g", ""},
		{"not h", "()"},
		{"g, g, not h", "()"},
		{"1 < 2", "()"},
		{"2 < 1", ""},
		{"1 / 0 = 1 / 0", ""},
		{"n(1)", "()"},
		{"n(7)", ""},
		{"n(_)", "()"},
		{"n(_), n(_), e(_, _)", "()"},
		{"h(_)", ""},
		{"n(_), h(_)", ""},
		{"n(X)", `(X=1) (X=2) (X=10) (X="") (X=b)`},
		{"p(X)", "(X=3) (X=4)"},
		{"e(X, _)", "(X=1) (X=2) (X=b)"},
		{"e(_, X)", "(X=1) (X=2) (X=10)"},
		{"e(X, X)", "(X=1)"},
		{"e(Y, X)", "(Y=1 X=1) (Y=1 X=2) (Y=2 X=1) (Y=b X=10)"},
		{"Y > 1, e(X, Y)", "(Y=2 X=1) (Y=10 X=b)"},
		{"t(X, _, X)", "(X=2)"},
		{"t(_, X, X)", "(X=2)"},
		{"t(1, X, _)", "(X=1) (X=2)"},
		{"t(X, _, _), t(_, X, _)", "(X=1) (X=2)"},
		{"t(X, _, 2), n(X), not t(X, X, X)", "(X=1)"},
		{"e(X, Y), e(Y, Z), not e(X, Z)", "(X=2 Y=1 Z=2)"},
		{"n(X), not e(X, _)", `(X=10) (X="")`},
		{"n(X), not e(_, X)", `(X="") (X=b)`},
		{"Z = X + Y, n(X), p(Y), Z > 10", "(Z=13 X=10 Y=3) (Z=14 X=10 Y=4)"},
		{"Z = Y, Y = X, X = 5", "(Z=5 Y=5 X=5)"},
		{"X = 5, 5 = X", "(X=5)"},
		{"X = 5, X = 6", ""},
		{"n(X), X = Y, Y = 10", "(X=10 Y=10)"},
		{`n(X), Y = X & "!", not n(Y)`, `(X="" Y="!") (X=b Y="b!")`},
		{"n(X), 20 / X = 2", "(X=10)"},
	} {
		wantSolutions(t, bodyOf(t, row.body), l, row.want)
	}
	wantSolutions(t, bodyOf(t, "n(X)"), nil, "")
	wantSolutions(t, bodyOf(t, "not n(1)"), nil, "()")
}

// P13.6: the errors in their order, where several hold at once.
func TestSolutionsRefused(t *testing.T) {
	good, two := nums("e", 1), nums("e", 1, 2)
	bad := api.Fact{Pred: "E"}
	none := [][]api.Literal{
		{{}},
		{pos("e", v("x"))},
		{pos("", v("X"))},
		{pos("e", v("X")), not("E")},
		{pos("e", api.Term{Var: "X", Val: num(1)})},
		{cmp(ex(v("_")), api.RelEq, ex(n(1)))},
		{cmp(ex(n(1)), api.RelNone, ex(n(1)))},
		{cmp(op(api.OpAdd, ex(n(1))), api.RelEq, ex(n(1)))},
		{not("e", v("X")), {Kind: 9}},
		slices.Repeat([]api.Literal{pos("g")}, 17),
		{pos("e", many(25)...)},
		{pos("e", many(24)...), pos("f", v("X"))},
	}
	for _, body := range none {
		for _, l := range [][]api.Fact{nil, {good}, {bad}, {good, two}, {good, two, bad}} {
			wantNone(t, body, l, api.ErrTerm)
		}
	}
	for _, source := range []string{"not e(X)", "e(X), not e(Y)", "X = X", "X = Y, Y = X", "e(X), Y < X", "e(X), X = Y + 1", "e(X), e(X, X), not f(Z)"} {
		for _, l := range [][]api.Fact{nil, {good}, {bad}, {good, two}, {good, two, bad}} {
			wantNone(t, bodyOf(t, source), l, api.ErrSafe)
		}
	}
	for _, source := range []string{"", "e(X)", "e(X, Y)", "e(X), not e(X, X)", "f, not f(1)", "f"} {
		for _, f := range noFacts() {
			wantNone(t, bodyOf(t, source), []api.Fact{f}, api.ErrValue)
			wantNone(t, bodyOf(t, source), []api.Fact{good, two, f, two}, api.ErrValue)
		}
	}
	for _, source := range []string{"e(X), not e(X, X)", "e(X), e(X, X)", "f, not f(1)", "not f, f(1)"} {
		wantNone(t, bodyOf(t, source), nil, api.ErrArity)
		wantNone(t, bodyOf(t, source), []api.Fact{good}, api.ErrArity)
	}
	for _, source := range []string{"", "f", "e(X, Y)", "not e", "g(X), not e(X, X, X)"} {
		wantNone(t, bodyOf(t, source), []api.Fact{good, two}, api.ErrArity)
		wantNone(t, bodyOf(t, source), []api.Fact{nums("z"), nums("z", 1)}, api.ErrArity)
	}
	wantNone(t, bodyOf(t, "e(X, Y)"), []api.Fact{good}, api.ErrArity)
	wantNone(t, bodyOf(t, "not e(1, 2)"), []api.Fact{good}, api.ErrArity)
}

// P13.6: no name is taken: a body may ask for any predicate, with any number of columns.
func TestSolutionsOfAnyName(t *testing.T) {
	long := "e" + strings.Repeat("a", 119)
	for _, pred := range []string{"p", "q", "q_p", "nobody", "a", "z", long} {
		wantSolutions(t, []api.Literal{pos(pred, v("X"), v("Y"), v("_"))}, []api.Fact{nums(pred, 1, 2, 3), nums(pred, 1, 2, 4), nums("q2", 5)}, "(X=1 Y=2)")
		wantSolutions(t, []api.Literal{pos(pred)}, []api.Fact{nums(pred)}, "()")
		wantSolutions(t, []api.Literal{not(pred, n(2))}, []api.Fact{nums(pred, 1)}, "()")
		wantSolutions(t, []api.Literal{pos("x9")}, []api.Fact{nums(pred, 1), nums("x9")}, "()")
	}
}

// P13.6, R1: as many literals, columns and variables as there may be; facts that are the same but where an atom has blanks come to one solution, however many they are.
func TestWideSolutions(t *testing.T) {
	wantSolutions(t, slices.Repeat([]api.Literal{pos("g")}, 16), []api.Fact{nums("g")}, "()")
	wantSolutions(t, slices.Repeat([]api.Literal{pos("g", v("_"))}, 16), nil, "")
	var l []api.Fact
	for i := range int64(1000) {
		l = append(l, nums("e", i%2, i), nums("n", i))
	}
	wantSolutions(t, slices.Repeat([]api.Literal{pos("e", v("_"), v("_")), pos("n", v("_"))}, 8), l, "()")
	var body []api.Literal
	for _, x := range many(4) {
		body = append(body, pos("e", x, v("_")), pos("e", v("_"), v("_")), pos("e", x, v("_")), pos("n", v("_")))
	}
	if got, err := join.Solutions(body, l); err != api.OK || len(got) != 16 || showBinds(got[:1]) != "(V0=0 V1=0 V2=0 V3=0)" || showBinds(got[15:]) != "(V0=1 V1=1 V2=1 V3=1)" {
		t.Errorf("Solutions(%s) = %s, %d", brief(body), brief(showBinds(got)), err)
	}
	body = nil
	for _, x := range many(15) {
		body = append(body, pos("n", x))
	}
	wantSolutions(t, append(body, pos("ghost", v("V0"))), l, "")

	wantSolutions(t, slices.Repeat([]api.Literal{pos("w", many(24)...)}, 16), []api.Fact{wide("w", 24)}, showBinds([][]api.Bind{wideBinds(24)}))
	skip := many(24)
	for i := range 23 {
		skip[i] = v("_")
	}
	wantSolutions(t, []api.Literal{pos("w", skip...)}, []api.Fact{wide("w", 24)}, "(V23=23)")
	wantSolutions(t, []api.Literal{pos("w", slices.Repeat([]api.Term{v("_")}, 24)...)}, []api.Fact{wide("w", 24)}, "()")
}

// wideBinds are those of the fact wide.
func wideBinds(count int) []api.Bind {
	var out []api.Bind
	for i, x := range many(count) {
		out = append(out, api.Bind{Var: x.Var, Val: num(int64(i))})
	}
	return out
}

// P13.6: many solutions, and made values that are as great as they may be.
func TestManySolutions(t *testing.T) {
	var l []api.Fact
	for i := range int64(300) {
		l = append(l, nums("n", (i*77)%300))
	}
	got, err := join.Solutions(bodyOf(t, "n(X), n(Y), X < Y"), l)
	if err != api.OK || len(got) != 300*299/2 {
		t.Fatalf("Solutions: %d, %d", len(got), err)
	}
	i := 0
	for x := range int64(300) {
		for y := x + 1; y < 300; y++ {
			if want := []api.Bind{{Var: "X", Val: num(x)}, {Var: "Y", Val: num(y)}}; !slices.Equal(got[i], want) {
				t.Fatalf("solution %d = %v, want %v", i, got[i], want)
			}
			i++
		}
	}
	long := text(strings.Repeat("a", 199))
	wantSolutions(t, bodyOf(t, "w(X), Y = X & a, Z = len(Y)"), []api.Fact{fact("w", long)}, `(X="`+long.Text+`" Y="`+long.Text+`a" Z=200)`)
	wantSolutions(t, bodyOf(t, "w(X), Y = X & ab"), []api.Fact{fact("w", long)}, "")
}
