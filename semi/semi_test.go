package semi_test

import (
	"fmt"
	"slices"
	"strconv"
	"strings"
	"testing"

	"pedigree/api"
	"pedigree/parse"
	"pedigree/semi"
	"pedigree/value"
)

func num(n int64) api.Value { return api.Value{Kind: api.KNum, Num: n} }

func text(s string) api.Value { return api.Value{Kind: api.KText, Text: s} }

func fact(pred string, l ...api.Value) api.Fact { return api.Fact{Pred: pred, Args: l} }

// nums is a fact of numbers.
func nums(pred string, l ...int64) api.Fact {
	f := api.Fact{Pred: pred}
	for _, n := range l {
		f.Args = append(f.Args, num(n))
	}
	return f
}

func v(name string) api.Term { return api.Term{Var: name} }

func ex(t api.Term) api.Expr { return api.Expr{Term: t} }

func op(o api.Op, kids ...api.Expr) api.Expr { return api.Expr{Op: o, Kids: kids} }

func pos(pred string, l ...api.Term) api.Literal {
	return api.Literal{Kind: api.LPos, Atom: api.Atom{Pred: pred, Args: l}}
}

func cmp(left api.Expr, rel api.Rel, right api.Expr) api.Literal {
	return api.Literal{Kind: api.LCmp, Rel: rel, Left: left, Right: right}
}

func head(l ...api.Term) []api.Arg {
	var out []api.Arg
	for _, t := range l {
		out = append(out, api.Arg{Term: t})
	}
	return out
}

// many are so many unlike variables.
func many(count int) []api.Term {
	var out []api.Term
	for i := range count {
		out = append(out, v("V"+strconv.Itoa(i)))
	}
	return out
}

// wide is a fact of so many numbers.
func wide(pred string, columns int) api.Fact {
	f := api.Fact{Pred: pred}
	for i := range columns {
		f.Args = append(f.Args, num(int64(i)))
	}
	return f
}

func rulesOf(t *testing.T, source string) []api.Rule {
	t.Helper()
	p, fault := parse.Program(source)
	if (fault != api.Fault{}) {
		t.Fatalf("%s: %v", source, fault)
	}
	return p.Rules
}

func factsOf(t *testing.T, source string) []api.Fact {
	t.Helper()
	l, fault := parse.Facts(source)
	if (fault != api.Fault{}) {
		t.Fatalf("%s: %v", source, fault)
	}
	return l
}

// showFact writes a fact as a source has it, without the dot.
func showFact(f api.Fact) string {
	var out []string
	for _, v := range f.Args {
		s, _ := value.Show(v)
		out = append(out, s)
	}
	if len(out) == 0 {
		return f.Pred
	}
	return f.Pred + "(" + strings.Join(out, ", ") + ")"
}

// show writes facts as a row of a test has them.
func show(l []api.Fact) string {
	var out []string
	for _, f := range l {
		out = append(out, showFact(f))
	}
	return strings.Join(out, ", ")
}

// brief writes a thing for a message, which has no room for very long ones.
func brief(x any) string {
	out := fmt.Sprint(x)
	if len(out) > 800 {
		return out[:800] + " .."
	}
	return out
}

// stats writes what a run tells of itself: the rounds, what each found, the joins.
func stats(s api.Stats) string {
	return fmt.Sprint(s.Rounds, s.New, s.Joins)
}

// wantRun asks for the facts and the stats, as stats writes them.
func wantRun(t *testing.T, rules []api.Rule, l []api.Fact, facts, told string) {
	t.Helper()
	if got, s, err := semi.Run(rules, l); err != api.OK || show(got) != facts || stats(s) != told {
		t.Errorf("Run(%s, %s) = %s, %s, %d; want %s, %s", brief(rules), brief(show(l)), brief(show(got)), brief(stats(s)), err, brief(facts), brief(told))
	}
}

type row struct{ rules, facts, want, stats string }

func wantRows(t *testing.T, l []row) {
	t.Helper()
	for _, r := range l {
		wantRun(t, rulesOf(t, r.rules), factsOf(t, r.facts), r.want, r.stats)
	}
}

const ancestors = "anc(X, Y) :- par(X, Y). anc(X, Y) :- par(X, Z), anc(Z, Y)."

// P15.2, P15.3: the chapter's examples.
func TestExamples(t *testing.T) {
	wantRows(t, []row{
		{ancestors, "par(1, 2). par(2, 3). par(3, 4).", "anc(1, 2), anc(1, 3), anc(1, 4), anc(2, 3), anc(2, 4), anc(3, 4), par(1, 2), par(2, 3), par(3, 4)", "4 [3 2 1] 6"},
		{ancestors, "par(1, 1).", "anc(1, 1), par(1, 1)", "2 [1] 2"},
		{ancestors, "anc(2, 3). par(1, 2).", "anc(1, 2), anc(1, 3), anc(2, 3), par(1, 2)", "2 [2] 2"},
		{ancestors, "", "", "1 [] 0"},
		{"", "", "", "1 [] 0"},
		{"p(1). q :- p(_). p(Y) :- e(X), Y = X + 1.", "e(1). e(2). e(2).", "e(1), e(2), p(1), p(2), p(3), q", "3 [3 1] 6"},
		{"s(X) :- e(X), not f(X).", "e(1). e(2). f(2).", "e(1), e(2), f(2), s(1)", "2 [1] 1"},
		{"p(X) :- e(X, Y), Y = X.", "e(1, 1). e(1, 2).", "e(1, 1), e(1, 2), p(1)", "2 [1] 1"},
	})
}

// P15.2, P15.3, P0.3: the document's example of a cycle: two joins of the first rule, eight of the second.
func TestCycle(t *testing.T) {
	const reach = "reach(X, Y) :- edge(X, Y). reach(X, Z) :- reach(X, Y), reach(Y, Z)."
	wantRows(t, []row{
		{reach, "edge(1, 2). edge(2, 1).", "edge(1, 2), edge(2, 1), reach(1, 1), reach(1, 2), reach(2, 1), reach(2, 2)", "3 [2 2] 10"},
		{reach, "edge(1, 1).", "edge(1, 1), reach(1, 1)", "2 [1] 2"},
		{reach, "edge(1, 2). edge(2, 3). edge(3, 1).", "edge(1, 2), edge(2, 3), edge(3, 1), reach(1, 1), reach(1, 2), reach(1, 3), reach(2, 1), reach(2, 2), reach(2, 3), reach(3, 1), reach(3, 2), reach(3, 3)", "4 [3 3 3] 30"},
	})
}

// P15.2, P15.3: no rules; rules without a body, or without an atom that stands plain; rules and facts that stand twice.
func TestNoAtoms(t *testing.T) {
	wantRows(t, []row{
		{"", "b. a. b.", "a, b", "1 [] 0"},
		{"", "e(2). e(1). d(a). e(2).", "d(a), e(1), e(2)", "1 [] 0"},
		{"p.", "", "p", "2 [1] 1"},
		{"p.", "p.", "p", "1 [] 1"},
		{"p. p.", "", "p", "2 [1] 2"},
		{"p(1). p(2). p(1).", "p(2). p(2).", "p(1), p(2)", "2 [1] 3"},
		{"p :- not q.", "", "p", "2 [1] 1"},
		{"p :- not q.", "q.", "q", "1 [] 0"},
		{"p(X) :- X = 1 + 1, not e(X).", "e(1).", "e(1), p(2)", "2 [1] 1"},
		{"p(X) :- X = 1 + 1, not e(X).", "e(2).", "e(2)", "1 [] 0"},
		{"p :- not e(_).", "e(2).", "e(2)", "1 [] 0"},
		{"p(X) :- X = 1 / 0.", "", "", "1 [] 0"},
		{"p :- 1 < 2.", "", "p", "2 [1] 1"},
		{"p :- 2 < 1.", "", "", "1 [] 0"},
		{"p :- 1 < a.", "", "p", "2 [1] 1"},
		{"p :- 1 + a = 1 + a.", "", "", "1 [] 0"},
		{"p(Z) :- Z = Y, Y = X, X = 5. q(X) :- p(X).", "", "p(5), q(5)", "3 [1 1] 2"},
		{"q(X) :- p(X). p(1). q(1).", "", "p(1), q(1)", "2 [2] 3"},
		{"p(X) :- e(X). p(X) :- e(X). p(X) :- e(X).", "e(1). e(2). e(1).", "e(1), e(2), p(1), p(2)", "2 [2] 6"},
	})
}

// P15.2, P15.3: each round finds the facts of its rank; through one rule, through several, and of heads that are given already.
func TestRounds(t *testing.T) {
	wantRows(t, []row{
		{"p(1). q(X) :- p(X). r(X) :- q(X).", "", "p(1), q(1), r(1)", "4 [1 1 1] 3"},
		{"r(X) :- q(X). q(X) :- p(X). p(1).", "", "p(1), q(1), r(1)", "4 [1 1 1] 3"},
		{"r(X) :- q(X). q(X) :- p(X). p(1).", "q(2). r(1).", "p(1), q(1), q(2), r(1), r(2)", "3 [2 1] 4"},
		{"p(X) :- p(X).", "", "", "1 [] 0"},
		{"p(X) :- p(X).", "p(1). p(2).", "p(1), p(2)", "1 [] 2"},
		{"p(X) :- q(X). q(X) :- p(X).", "p(1). q(2).", "p(1), p(2), q(1), q(2)", "2 [2] 4"},
		{"p(X) :- q(X). q(X) :- r(X). r(X) :- p(X).", "p(1).", "p(1), q(1), r(1)", "3 [1 1] 3"},
		{"even(0). even(Y) :- odd(X), next(X, Y). odd(Y) :- even(X), next(X, Y).", "next(0, 1). next(1, 2). next(2, 3).", "even(0), even(2), next(0, 1), next(1, 2), next(2, 3), odd(1), odd(3)", "5 [1 1 1 1] 4"},
		{"s(X) :- a(X). s(X) :- b(X). b(X) :- c(X). c(X) :- d(X).", "a(1). d(1). d(2).", "a(1), b(1), b(2), c(1), c(2), d(1), d(2), s(1), s(2)", "4 [3 2 1] 7"},
		{"t(X, Z) :- t(X, Y), t(Y, Z).", "t(1, 2). t(2, 3). t(3, 4). t(4, 5).", "t(1, 2), t(1, 3), t(1, 4), t(1, 5), t(2, 3), t(2, 4), t(2, 5), t(3, 4), t(3, 5), t(4, 5)", "3 [3 3] 10"},
		{"e(X, Z) :- e(X, Y), f(Y, Z). f(X, Z) :- e(X, Y), f(Y, Z).", "e(1, 2). f(2, 3). f(3, 4).", "e(1, 2), e(1, 3), e(1, 4), f(1, 3), f(1, 4), f(2, 3), f(3, 4)", "3 [2 2] 4"},
		{"p(X) :- ghost(X). q(X) :- p(X), e(X).", "e(1).", "e(1)", "1 [] 0"},
	})
}

// P15.3: each join counts, whatever it gives: facts that differ at a blank are two; one atom that stands twice has each pair of facts.
func TestJoins(t *testing.T) {
	wantRows(t, []row{
		{"p(X) :- e(X, _).", "e(1, 1). e(1, 2). e(2, 1).", "e(1, 1), e(1, 2), e(2, 1), p(1), p(2)", "2 [2] 3"},
		{"p(X) :- e(X, Y).", "e(1, 1). e(1, 2). e(2, 1).", "e(1, 1), e(1, 2), e(2, 1), p(1), p(2)", "2 [2] 3"},
		{"p :- e(_, _), e(_, _).", "e(1, 1). e(1, 2). e(2, 1).", "e(1, 1), e(1, 2), e(2, 1), p", "2 [1] 9"},
		{"p :- n(_), n(_), n(_).", "n(1). n(2).", "n(1), n(2), p", "2 [1] 8"},
		{"p(X) :- n(X), n(X), n(X).", "n(1). n(2).", "n(1), n(2), p(1), p(2)", "2 [2] 2"},
		{"n(X) :- n(X), n(Y).", "n(1). n(2). n(3).", "n(1), n(2), n(3)", "1 [] 9"},
		{"n(9) :- n(_), n(_), n(_).", "n(1). n(2).", "n(1), n(2), n(9)", "2 [1] 27"},
		{"n(X) :- n(Y), m(X), n(Z).", "n(1). m(2).", "m(2), n(1), n(2)", "2 [1] 4"},
		{"n(X) :- m(X), n(Y), n(Y).", "n(1). m(2). m(3).", "m(2), m(3), n(1), n(2), n(3)", "2 [2] 6"},
		{"h :- g, g, g.", "g.", "g, h", "2 [1] 1"},
		{"g :- g, g, g.", "g.", "g", "1 [] 1"},
		{"h :- g. g :- h.", "g.", "g, h", "2 [1] 2"},
		{"p(X) :- e(X, Y), not f(Y).", "e(1, 1). e(1, 2). e(1, 3). f(2).", "e(1, 1), e(1, 2), e(1, 3), f(2), p(1)", "2 [1] 2"},
		{"p(X) :- e(X, _), not f(_).", "e(1, 1). e(1, 2).", "e(1, 1), e(1, 2), p(1)", "2 [1] 2"},
		{"p(X) :- e(X, _), not f(_).", "e(1, 1). e(1, 2). f(7).", "e(1, 1), e(1, 2), f(7)", "1 [] 0"},
		{"p(X) :- e(X, Y), X < Y.", "e(1, 1). e(1, 2). e(1, 3). e(2, 1).", "e(1, 1), e(1, 2), e(1, 3), e(2, 1), p(1)", "2 [1] 2"},
		{"p(Y) :- e(X, _), Y = X + 1.", "e(1, 1). e(1, 2). e(a, 1).", "e(1, 1), e(1, 2), e(a, 1), p(2)", "2 [1] 2"},
		{"p(Y) :- e(X), Y = 6 / X. q(X) :- p(X), not e(X).", "e(0). e(2). e(3).", "e(0), e(2), e(3), p(2), p(3)", "2 [2] 2"},
		{"p(Y) :- e(X), Y = X, Y = 2.", "e(1). e(2).", "e(1), e(2), p(2)", "2 [1] 1"},
		{"t(X, X) :- t(X, X), t(X, _).", "t(1, 1). t(1, 2). t(2, 2).", "t(1, 1), t(1, 2), t(2, 2)", "1 [] 3"},
		{"t(1, Y) :- t(1, X), e(X, Y). t(1, 0).", "e(0, 1). e(1, 2). e(2, 0). t(0, 1).", "e(0, 1), e(1, 2), e(2, 0), t(0, 1), t(1, 0), t(1, 1), t(1, 2)", "4 [1 1 1] 4"},
		{"t(X, Y) :- t(Y, X), t(1, 2).", "t(1, 2). t(3, 3).", "t(1, 2), t(2, 1), t(3, 3)", "2 [1] 3"},
		{"p(Y) :- p(X), m(Y), Y = X + 1.", "p(1). m(2). m(3). m(5).", "m(2), m(3), m(5), p(1), p(2), p(3)", "3 [1 1] 2"},
		{"p(Y) :- p(X), Y = 5, X < 5.", "p(1). p(2).", "p(1), p(2), p(5)", "2 [1] 2"},
	})
}

// P15.2: facts are told apart, however alike they look when they are written.
func TestFactsThatLookAlike(t *testing.T) {
	rules := rulesOf(t, `p(X, Y) :- e(X, Y). q(X) :- p(X, _). q(Y) :- p(_, Y). q("q(1)").`)
	l := []api.Fact{
		fact("e", num(1), text("2")), fact("e", text("1"), num(2)), fact("e", text("1"), text("2")), fact("e", num(1), num(2)),
		fact("e", text("a, b"), text("c")), fact("e", text("a"), text("b, c")), fact("e", text(`a", "b`), text("c")), fact("e", text("a"), text(`b", "c`)),
		fact("e", text("a)"), text("")), fact("e", text("a"), text(")")), fact("e", text(`\x00`), text("\x00")), fact("e", text(" "), text("\n")),
	}
	got, s, err := semi.Run(rules, l)
	// q("q(1)") comes in round 1, the others in round 2: 17 unlike values stand in e.
	if err != api.OK || len(got) != 12+12+18 || stats(s) != "3 [13 17] 37" {
		t.Errorf("Run: %s, %s, %d", show(got), stats(s), err)
	}
}

// P15.2, P15.3, R1: as many columns, literals, variables and bytes as there may be.
func TestWideRules(t *testing.T) {
	long := "e" + strings.Repeat("a", 119)
	r := api.Rule{Pred: "r", Head: head(many(24)...), Body: slices.Repeat([]api.Literal{pos(long, many(24)...)}, 16)}
	wantRun(t, []api.Rule{r}, []api.Fact{wide(long, 24)}, show([]api.Fact{wide(long, 24), wide("r", 24)}), "2 [1] 1")
	r.Pred = long
	wantRun(t, []api.Rule{r}, []api.Fact{wide(long, 24)}, showFact(wide(long, 24)), "1 [] 1")
	for _, columns := range []int{0, 1, 24} {
		copied := api.Rule{Pred: "q_r", Head: head(many(columns)...), Body: []api.Literal{pos("e", many(columns)...)}}
		wantRun(t, []api.Rule{copied, copied}, []api.Fact{wide("e", columns)}, show([]api.Fact{wide("e", columns), wide("q_r", columns)}), "2 [1] 2")
	}
	most, half := text(strings.Repeat("a", 200)), text(strings.Repeat("a", 100))
	wantRun(t, rulesOf(t, "p(Y) :- w(X), Y = X & X."), []api.Fact{fact("w", half), fact("w", most)}, show([]api.Fact{fact("p", most), fact("w", half), fact("w", most)}), "2 [1] 1")
	deep := ex(v("X"))
	for range 7 {
		deep = op(api.OpNeg, deep)
	}
	wantRun(t, []api.Rule{{Pred: "p", Head: head(v("Y")), Body: []api.Literal{pos("n", v("X")), cmp(ex(v("Y")), api.RelEq, deep)}}}, []api.Fact{nums("n", 5)}, "n(5), p(-5)", "2 [1] 1")
	var each []api.Rule
	for _, n := range []int64{1, 2} {
		each = append(each, api.Rule{Pred: "n", Head: head(api.Term{Val: num(n)})})
	}
	all := api.Rule{Pred: "h", Body: slices.Repeat([]api.Literal{pos("n", v("_"))}, 16)}
	wantRun(t, append(each, all), nil, "h, n(1), n(2)", "3 [2 1] 65538")
}

func chain(pred string, n int) []api.Fact {
	var out []api.Fact
	for i := range int64(n) {
		out = append(out, nums(pred, i, i+1))
	}
	return out
}

// ones are so many rounds that find one fact each.
func ones(n int) []int { return slices.Repeat([]int{1}, n) }

// P15.3, P0.3, R1: a long way to go, each round with what is new alone: through one rule over many facts, also by an atom with a value in it, and through many rules.
func TestManyRounds(t *testing.T) {
	const long = 20000
	for _, source := range []string{"r(0). r(Y) :- r(X), e(X, Y).", "r(0). r(Y) :- e(X, Y), r(X).", "r(1, 0). r(1, Y) :- r(1, X), e(X, Y).", "r(0, 1). r(Y, 1) :- e(X, Y), r(X, 1)."} {
		got, s, err := semi.Run(rulesOf(t, source), chain("e", long))
		if err != api.OK || len(got) != 2*long+1 || s.Rounds != long+2 || s.Joins != long+1 || !slices.Equal(s.New, ones(long+1)) {
			t.Errorf("Run(%s, ..): %d facts, %d rounds, %d joins, %d", source, len(got), s.Rounds, s.Joins, err)
		}
	}
	const many = 500
	var rules []api.Rule
	for i := range many {
		rules = append(rules, api.Rule{Pred: "p" + strconv.Itoa(i+1), Head: head(v("X")), Body: []api.Literal{pos("p"+strconv.Itoa(i), v("X"))}})
	}
	var l []api.Fact
	for i := range int64(100) {
		l = append(l, nums("p0", i))
	}
	got, s, err := semi.Run(rules, l)
	if err != api.OK || len(got) != 100*(many+1) || stats(s) != fmt.Sprint(many+1, slices.Repeat([]int{100}, many), 100*many) {
		t.Errorf("Run: %d facts, %s, %d", len(got), brief(stats(s)), err)
	}
}

// P15.2, P15.3: many facts that come by recursion, most of them once.
func TestManyFacts(t *testing.T) {
	const n = 300
	var found []int
	for i := range n {
		found = append(found, n-i)
	}
	const facts = n * (n + 1) / 2
	for _, source := range []string{"t(X, Y) :- e(X, Y). t(X, Z) :- e(X, Y), t(Y, Z).", "t(X, Y) :- e(X, Y). t(X, Z) :- t(X, Y), e(Y, Z)."} {
		got, s, err := semi.Run(rulesOf(t, source), chain("e", n))
		if err != api.OK || len(got) != n+facts || stats(s) != fmt.Sprint(n+1, found, facts) {
			t.Errorf("Run(%s, ..): %d facts, %s, %d", source, len(got), brief(stats(s)), err)
		}
	}
	ring := append(chain("e", 59), nums("e", 59, 0))
	got, s, err := semi.Run(rulesOf(t, "t(X, Y) :- e(X, Y). t(X, Z) :- t(X, Y), t(Y, Z)."), ring)
	if err != api.OK || len(got) != 60+3600 || stats(s) != "8 [60 60 120 240 480 960 1680] 216060" {
		t.Errorf("Run over a ring: %d facts, %s, %d", len(got), stats(s), err)
	}
}
