package why_test

import (
	"slices"
	"strings"
	"testing"

	"pedigree/api"
	"pedigree/print"
	"pedigree/term"
	"pedigree/value"
	"pedigree/why"
)

// P23.6: each kind's line, and what stands ahead of it.
func TestLines(t *testing.T) {
	f, g := factOf(t, `p(1, "a b", c).`), factOf(t, "q.")
	for _, c := range []struct {
		x    api.Proof
		want []string
	}{
		{given(f), []string{`p(1, "a b", c) is given`}},
		{given(g), []string{"q is given"}},
		{api.Proof{Kind: api.ProofTrue}, []string{"true"}},
		{api.Proof{Kind: api.ProofTrue, Fact: fact("P", api.Value{}), Rule: 7, Binds: []api.Bind{{}}}, []string{"true"}}, // nothing of it is looked at
		{api.Proof{Kind: api.ProofGiven, Fact: g, Rule: 7, Binds: []api.Bind{{}}}, []string{"q is given"}},
		{api.Proof{Kind: api.ProofAbsent, Fact: f, Rule: 7, Binds: []api.Bind{{}}}, []string{`not p(1, "a b", c)`}},
		{api.Proof{Kind: api.ProofAbsent, Fact: fact("r", api.Value{}, num(-3), api.Value{})}, []string{"not r(_, -3, _)"}},
		{api.Proof{Kind: api.ProofAbsent, Fact: g}, []string{"not q"}},
		{api.Proof{Kind: api.ProofRule, Fact: g}, []string{"q by rule 0"}},
		{api.Proof{Kind: api.ProofRule, Fact: g, Rule: 9223372036854775807}, []string{"q by rule 9223372036854775807"}},
		{api.Proof{Kind: api.ProofRule, Fact: g, Rule: -9223372036854775808, Binds: []api.Bind{bind("X", num(0))}}, []string{"q by rule -9223372036854775808 with X = 0"}},
		{api.Proof{Kind: api.ProofRule, Fact: f, Rule: 12, Binds: []api.Bind{bind("X", text("X")), bind("Ab_1", text("not")), bind("X", num(-1)), bind("Z", text("a\n\"\\\xff"))}},
			[]string{`p(1, "a b", c) by rule 12 with X = "X", Ab_1 = "not", X = -1, Z = "a\n\"\\\xff"`}},
		{api.Proof{Kind: api.ProofTrue, Kids: []api.Proof{{Kind: api.ProofAbsent, Fact: g, Kids: []api.Proof{given(g), {Kind: api.ProofTrue, Kids: []api.Proof{given(f)}}}}, given(g)}},
			[]string{"true", "  not q", "    q is given", "    true", `      p(1, "a b", c) is given`, "  q is given"}},
	} {
		got, err := why.Lines(c.x)
		if err != api.OK || !slices.Equal(got, c.want) {
			t.Errorf("Lines(%s): %q, %d; want %q", showProof(c.x), got, err, c.want)
		}
	}
}

// P23.6: each error.
func TestLineErrors(t *testing.T) {
	f := factOf(t, "p(1).")
	long := strings.Repeat("A", api.MaxLong+1)
	for _, c := range []struct {
		x    api.Proof
		code api.Errno
	}{
		{api.Proof{}, api.ErrArg},
		{api.Proof{Fact: f}, api.ErrArg},
		{api.Proof{Kind: -1, Fact: f}, api.ErrArg},
		{api.Proof{Kind: 5, Fact: f}, api.ErrArg},
		{api.Proof{Kind: 127, Fact: fact("P")}, api.ErrArg},
		{given(fact("P")), api.ErrTerm},
		{given(fact("")), api.ErrTerm},
		{given(fact("not")), api.ErrTerm},
		{given(fact("p", api.Value{})), api.ErrTerm},
		{given(fact("p", num(1), api.Value{Kind: api.KNum, Text: "a"})), api.ErrTerm},
		{given(fact("p", slices.Repeat([]api.Value{num(1)}, 25)...)), api.ErrTerm},
		{given(fact("p", slices.Repeat([]api.Value{num(1)}, 24)...)), api.OK},
		{given(fact("p", text(strings.Repeat("a", 201)))), api.ErrTerm},
		{given(fact("p", text(strings.Repeat("a", 200)))), api.OK},
		{api.Proof{Kind: api.ProofAbsent, Fact: fact("Q", api.Value{})}, api.ErrTerm},
		{api.Proof{Kind: api.ProofAbsent, Fact: fact("q", api.Value{Num: 1})}, api.ErrTerm},
		{api.Proof{Kind: api.ProofAbsent, Fact: fact("q", api.Value{Text: "a"})}, api.ErrTerm},
		{api.Proof{Kind: api.ProofAbsent, Fact: fact("q", slices.Repeat([]api.Value{{}}, 24)...)}, api.OK},
		{api.Proof{Kind: api.ProofAbsent, Fact: fact("q", slices.Repeat([]api.Value{{}}, 25)...)}, api.ErrTerm},
		{api.Proof{Kind: api.ProofRule, Fact: fact("p", api.Value{})}, api.ErrTerm},
		{api.Proof{Kind: api.ProofRule, Fact: f, Binds: []api.Bind{bind("x", num(1))}}, api.ErrTerm},
		{api.Proof{Kind: api.ProofRule, Fact: f, Binds: []api.Bind{bind("", num(1))}}, api.ErrTerm},
		{api.Proof{Kind: api.ProofRule, Fact: f, Binds: []api.Bind{bind("_", num(1))}}, api.ErrTerm},
		{api.Proof{Kind: api.ProofRule, Fact: f, Binds: []api.Bind{bind("_X", num(1))}}, api.ErrTerm},
		{api.Proof{Kind: api.ProofRule, Fact: f, Binds: []api.Bind{bind("X Y", num(1))}}, api.ErrTerm},
		{api.Proof{Kind: api.ProofRule, Fact: f, Binds: []api.Bind{bind(long, num(1))}}, api.ErrTerm},
		{api.Proof{Kind: api.ProofRule, Fact: f, Binds: []api.Bind{bind(long[1:], num(1))}}, api.OK},
		{api.Proof{Kind: api.ProofRule, Fact: f, Binds: []api.Bind{bind("X", api.Value{})}}, api.ErrValue},
		{api.Proof{Kind: api.ProofRule, Fact: f, Binds: []api.Bind{bind("X", text(strings.Repeat("a", 201)))}}, api.ErrValue},
		// which one comes first
		{api.Proof{Kind: api.ProofRule, Fact: fact("P"), Binds: []api.Bind{bind("X", api.Value{})}}, api.ErrTerm},
		{api.Proof{Kind: api.ProofRule, Fact: f, Binds: []api.Bind{bind("X", api.Value{}), bind("x", num(1))}}, api.ErrValue},
		{api.Proof{Kind: api.ProofRule, Fact: f, Binds: []api.Bind{bind("X", num(1)), bind("x", api.Value{})}}, api.ErrTerm},
		{api.Proof{Kind: api.ProofRule, Fact: f, Binds: []api.Bind{bind("X", api.Value{})}, Kids: []api.Proof{{}}}, api.ErrValue},
		{api.Proof{Kind: api.ProofRule, Fact: f, Kids: []api.Proof{{}, given(fact("P"))}}, api.ErrArg},
		{api.Proof{Kind: api.ProofRule, Fact: f, Kids: []api.Proof{given(fact("P")), {}}}, api.ErrTerm},
		{api.Proof{Kind: api.ProofTrue, Kids: []api.Proof{{Kind: api.ProofTrue, Kids: []api.Proof{{}}}, given(fact("P"))}}, api.ErrArg},
	} {
		l, err := why.Lines(c.x)
		if err != c.code || err != api.OK && len(l) > 0 {
			t.Errorf("Lines(%s): %q, %d; want %d", brief(showProof(c.x)), l, err, c.code)
		}
	}
}

// wildProof is any struct, mostly one of which there are lines.
func (d *dice) wildProof(deep int) api.Proof {
	x := api.Proof{Kind: api.ProofGiven + api.ProofKind(d.below(4)), Rule: d.below(5) - 1, Fact: d.factOf(d.pred(append(base(), ruled()...)))}
	for range d.below(3) {
		x.Binds = append(x.Binds, bind(d.one("X", "Y", "Long_1"), d.value()))
	}
	if x.Kind == api.ProofAbsent && len(x.Fact.Args) > 0 && d.below(2) == 0 {
		x.Fact.Args[0] = api.Value{}
	}
	switch d.below(60) {
	case 0:
		x.Kind = api.ProofKind(d.below(8) - 2)
	case 1:
		x.Fact.Pred = d.one("", "P", "not")
	case 2:
		x.Fact.Args = append(x.Fact.Args, api.Value{Kind: api.Kind(d.below(4)), Num: int64(d.below(2))})
	case 3:
		x.Binds = append(x.Binds, bind(d.one("X", "_", "", "x"), api.Value{Kind: api.Kind(d.below(4)), Num: int64(d.below(2))}))
	}
	for deep > 0 && d.below(3) > 0 {
		x.Kids = append(x.Kids, d.wildProof(deep-1))
	}
	return x
}

// slowLines is written along P23.6.
func slowLines(x api.Proof, ahead string) ([]string, api.Errno) {
	if x.Kind < api.ProofGiven || x.Kind > api.ProofTrue {
		return nil, api.ErrArg
	}
	line := "true"
	if x.Kind != api.ProofTrue {
		a := api.Atom{Pred: x.Fact.Pred}
		for _, val := range x.Fact.Args {
			if x.Kind == api.ProofAbsent && (val == api.Value{}) {
				a.Args = append(a.Args, v("_"))
			} else {
				a.Args = append(a.Args, api.Term{Val: val})
			}
		}
		s, err := print.Atom(a)
		if err != api.OK {
			return nil, err
		}
		line = s
	}
	switch x.Kind {
	case api.ProofGiven:
		line += " is given"
	case api.ProofAbsent:
		line = "not " + line
	case api.ProofRule:
		line += " by rule " + itoa(x.Rule)
		for i, b := range x.Binds {
			if b.Var == "_" || b.Var == "" || term.CheckTerm(v(b.Var)) != api.OK {
				return nil, api.ErrTerm
			}
			s, err := value.Show(b.Val)
			if err != api.OK {
				return nil, err
			}
			line += []string{", ", " with "}[max(0, 1-i)] + b.Var + " = " + s
		}
	}
	out := []string{ahead + line}
	for _, kid := range x.Kids {
		more, err := slowLines(kid, ahead+"  ")
		if err != api.OK {
			return nil, err
		}
		out = append(out, more...)
	}
	return out, api.OK
}

func itoa(n int) string {
	s, _ := value.Show(num(int64(n)))
	return s
}

func slowHeight(x api.Proof) int {
	out := 1
	for _, kid := range x.Kids {
		out = max(out, 1+slowHeight(kid))
	}
	return out
}

func slowUses(x api.Proof) []api.Fact {
	var out []api.Fact
	if x.Kind == api.ProofGiven {
		out = append(out, x.Fact)
	}
	for _, kid := range x.Kids {
		out = append(out, slowUses(kid)...)
	}
	return value.Facts(out)
}

// P23.5, P23.6, R1: Lines, Height and Uses of any structs.
func TestAnyStruct(t *testing.T) {
	d := dice(3)
	codes, heights, uses := map[api.Errno]int{}, map[int]int{}, 0
	for range 4000 {
		x := d.wildProof(5)
		want, code := slowLines(x, "")
		got, err := why.Lines(x)
		if err != code || !slices.Equal(got, want) {
			t.Fatalf("Lines(%s): %d\n%s\nwant %d\n%s", showProof(x), err, strings.Join(got, "\n"), code, strings.Join(want, "\n"))
		}
		if h := why.Height(x); h != slowHeight(x) {
			t.Fatalf("Height(%s): %d", showProof(x), h)
		}
		given := why.Uses(x)
		if !slices.EqualFunc(given, slowUses(x), func(a, b api.Fact) bool { return value.CompareFacts(a, b) == 0 }) {
			t.Fatalf("Uses(%s): %s", showProof(x), show(given...))
		}
		codes[err]++
		heights[slowHeight(x)]++
		uses = max(uses, len(given))
	}
	if codes[api.OK] < 1000 || codes[api.ErrArg] < 100 || codes[api.ErrTerm] < 100 || codes[api.ErrValue] < 20 || heights[1] < 100 || heights[6] < 100 || uses < 15 {
		t.Errorf("codes %v, heights %v, %d facts at most", codes, heights, uses)
	}
}

// P23.5: Uses tells what stands in any part, whatever it is for, and values that may not be too.
func TestUses(t *testing.T) {
	bad := fact("P", api.Value{Kind: 9, Num: 3, Text: "x"})
	x := api.Proof{Kind: api.ProofAbsent, Fact: fact("z"), Kids: []api.Proof{
		given(fact("b", num(2))), {Kids: []api.Proof{given(bad), given(fact("b"))}},
		{Kind: api.ProofGiven, Fact: fact("a", text("x")), Kids: []api.Proof{given(fact("b", num(2))), given(fact("b", num(-2)))}}, {Kind: api.ProofRule, Fact: fact("c")}}}
	want := []api.Fact{bad, fact("a", text("x")), fact("b"), fact("b", num(-2)), fact("b", num(2))}
	if got := why.Uses(x); !slices.EqualFunc(got, want, func(a, b api.Fact) bool { return value.CompareFacts(a, b) == 0 }) {
		t.Errorf("Uses: %v", got)
	}
	if h := why.Height(x); h != 3 {
		t.Errorf("Height: %d", h)
	}
}
