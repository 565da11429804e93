package term_test

import (
	"slices"
	"strings"
	"testing"

	"pedigree/api"
	"pedigree/term"
)

func fact(pred string, l ...api.Value) api.Fact { return api.Fact{Pred: pred, Args: l} }

func nums(l ...int64) []api.Value {
	var out []api.Value
	for _, k := range l {
		out = append(out, num(k))
	}
	return out
}

func bind(name string, w api.Value) api.Bind { return api.Bind{Var: name, Val: w} }

func wantMatch(t *testing.T, a api.Atom, f api.Fact, want ...api.Bind) {
	t.Helper()
	if got, ok := term.Match(a, f); !ok || !slices.Equal(got, want) {
		t.Errorf("Match(%#v, %#v) = %#v, %v; want %#v", a, f, got, ok, want)
	}
}

func wantNoMatch(t *testing.T, a api.Atom, f api.Fact) {
	t.Helper()
	if got, ok := term.Match(a, f); ok || got != nil {
		t.Errorf("Match(%#v, %#v) = %#v, %v; want nil, false", a, f, got, ok)
	}
}

func wantUnify(t *testing.T, a, b api.Atom, want ...api.Pair) {
	t.Helper()
	if got, ok := term.Unify(a, b); !ok || !slices.Equal(got, want) {
		t.Errorf("Unify(%#v, %#v) = %#v, %v; want %#v", a, b, got, ok, want)
	}
}

func wantNoUnify(t *testing.T, a, b api.Atom) {
	t.Helper()
	if got, ok := term.Unify(a, b); ok || got != nil {
		t.Errorf("Unify(%#v, %#v) = %#v, %v; want nil, false", a, b, got, ok)
	}
}

// P4.5: the chapter's examples.
func TestMatchExamples(t *testing.T) {
	a := atom("p", v("X"), v("_"), v("X"), n(5))
	wantMatch(t, a, fact("p", nums(1, 2, 1, 5)...), bind("X", num(1)))
	wantNoMatch(t, a, fact("p", nums(1, 2, 3, 5)...))
	wantNoMatch(t, a, fact("p", nums(1, 2, 1)...))
}

// P4.5: the order of the variables, blanks, values of both kinds, and what is no match.
func TestMatch(t *testing.T) {
	wantMatch(t, atom("p"), fact("p"))
	wantMatch(t, atom("q_p", v("_"), v("_")), fact("q_p", nums(1, 2)...))
	wantMatch(t, atom("p", v("Z"), v("A"), v("Z"), v("M")), fact("p", num(1), text("a"), num(1), text("")), bind("Z", num(1)), bind("A", text("a")), bind("M", text("")))
	wantMatch(t, atom("p", n(1), s("1"), s("")), fact("p", num(1), text("1"), text("")))
	wantNoMatch(t, atom("p", n(1)), fact("p", text("1")))
	wantNoMatch(t, atom("p", s("1")), fact("p", num(1)))
	wantNoMatch(t, atom("p", v("X"), v("X")), fact("p", num(0), text("")))
	wantNoMatch(t, atom("p", v("X")), fact("p"))
	wantNoMatch(t, atom("p", v("X")), fact("p", nums(1, 2)...))
	wantNoMatch(t, atom("p", v("X")), fact("pp", num(1)))
	wantNoMatch(t, atom("p"), fact("q"))
	wide := slices.Repeat(nums(7), api.MaxWide)
	wantMatch(t, atom("p", slices.Repeat([]api.Term{v("X")}, api.MaxWide)...), fact("p", wide...), bind("X", num(7)))
	wide[api.MaxWide-1] = num(8)
	wantNoMatch(t, atom("p", slices.Repeat([]api.Term{v("X")}, api.MaxWide)...), fact("p", wide...))
	wantNoMatch(t, atom("p", slices.Repeat([]api.Term{v("X")}, api.MaxWide+1)...), fact("p", slices.Repeat(nums(7), api.MaxWide+1)...))
}

// P4.5: an atom, and values, that may not be.
func TestMatchOfAnyStruct(t *testing.T) {
	for _, x := range badTerms() {
		for _, w := range []api.Value{num(1), x.Val} {
			wantNoMatch(t, atom("p", x), fact("p", w))
			wantNoMatch(t, atom("p", v("X"), x), fact("p", num(1), w))
			wantNoMatch(t, atom("p", x, v("_")), fact("p", w, num(1)))
		}
	}
	for _, p := range badPreds() {
		wantNoMatch(t, atom(p), fact(p))
		wantNoMatch(t, atom(p, v("X")), fact(p, num(1)))
	}
	wantNoMatch(t, api.Atom{}, api.Fact{})
	for _, w := range []api.Value{{}, {Num: 1}, {Kind: 3}, {Kind: -1}, {Kind: api.KNum, Text: "a"}, {Kind: api.KText, Num: 1}, text(strings.Repeat("a", 201))} {
		for _, x := range []api.Term{v("X"), v("_"), n(1), {Val: w}} {
			wantNoMatch(t, atom("p", x), fact("p", w))
			wantNoMatch(t, atom("p", v("Y"), x), fact("p", num(1), w))
			wantNoMatch(t, atom("p", x, v("Y")), fact("p", w, num(1)))
			wantNoMatch(t, atom("p", x, x), fact("p", w, w))
		}
	}
}

// P4.6: the chapter's examples.
func TestUnifyExamples(t *testing.T) {
	x, y, z, w := v("X"), v("Y"), v("Z"), v("W")
	wantUnify(t, atom("p", x, y), atom("p", y, n(5)), pair("X", n(5)), pair("Y", n(5)))
	wantUnify(t, atom("p", x, y, z), atom("p", y, z, w), pair("X", w), pair("Y", w), pair("Z", w))
	wantNoUnify(t, atom("p", n(5), x), atom("p", x, n(6)))
	wantUnify(t, atom("p", x, v("_")), atom("p", v("_"), n(6)))
	wantUnify(t, atom("p", x, s("a")), atom("p", x, y), pair("Y", s("a")))
}

// P4.6: whose variable is bound, in which order the pairs come, and blanks that stand for unlike things.
func TestUnify(t *testing.T) {
	x, y, z, w, blank := v("X"), v("Y"), v("Z"), v("W"), v("_")
	wantUnify(t, atom("p"), atom("p"))
	wantUnify(t, atom("p", x), atom("p", x))
	wantUnify(t, atom("p", x), atom("p", y), pair("X", y))
	wantUnify(t, atom("p", y), atom("p", x), pair("Y", x))
	wantUnify(t, atom("p", n(1), x), atom("p", x, n(1)), pair("X", n(1)))
	wantUnify(t, atom("p", x, x), atom("p", y, n(1)), pair("X", n(1)), pair("Y", n(1)))
	wantUnify(t, atom("p", x, y), atom("p", y, x), pair("X", y))
	wantUnify(t, atom("p", z, x, y, x), atom("p", w, y, z, s("")), pair("Z", s("")), pair("X", s("")), pair("Y", s("")), pair("W", s("")))
	wantUnify(t, atom("p", x, y, n(3)), atom("p", n(1), n(2), z), pair("X", n(1)), pair("Y", n(2)), pair("Z", n(3)))
	wantUnify(t, atom("p", blank, blank, x), atom("p", n(1), n(2), blank))
	wantUnify(t, atom("p", blank, blank, x, x), atom("p", y, y, n(2), y), pair("X", n(2)), pair("Y", n(2)))
	wantUnify(t, atom("p", blank), atom("p", blank))
	wantNoUnify(t, atom("p", x, x), atom("p", n(1), n(2)))
	wantNoUnify(t, atom("p", n(1)), atom("p", s("1")))
	wantNoUnify(t, atom("p", x, y, x), atom("p", y, n(1), n(2)))
	wantNoUnify(t, atom("p", x), atom("q", x))
	wantNoUnify(t, atom("p", x), atom("p", x, x))
	wantNoUnify(t, atom("p", x, x), atom("p", x))
	wide := slices.Repeat([]api.Term{x}, api.MaxWide)
	l := names(api.MaxWide)
	var chain []api.Pair
	for i := range l {
		if i == 0 {
			chain = append(chain, pair("X", l[23]))
		} else {
			chain = append(chain, pair(l[i-1].Var, l[23]))
		}
	}
	wantUnify(t, atom("p", wide...), atom("p", l...), chain...)
	wantNoUnify(t, atom("p", append(wide, x)...), atom("p", append(wide, x)...))
}

// P4.6: atoms that may not be, a blank opposite or not.
func TestUnifyOfAnyStruct(t *testing.T) {
	for _, x := range badTerms() {
		for _, y := range []api.Term{v("_"), v("X"), n(1), x} {
			wantNoUnify(t, atom("p", x), atom("p", y))
			wantNoUnify(t, atom("p", y), atom("p", x))
			wantNoUnify(t, atom("p", v("X"), x), atom("p", n(1), y))
			wantNoUnify(t, atom("p", n(1), y), atom("p", v("X"), x))
		}
	}
	for _, p := range badPreds() {
		wantNoUnify(t, atom(p), atom(p))
		wantNoUnify(t, atom(p, v("X")), atom(p, v("X")))
	}
	wantNoUnify(t, api.Atom{}, api.Atom{})
}
