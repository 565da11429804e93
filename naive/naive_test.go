package naive_test

import (
	"fmt"
	"slices"
	"strconv"
	"strings"
	"testing"

	"pedigree/api"
	"pedigree/naive"
	"pedigree/parse"
	"pedigree/value"
)

func num(n int64) api.Value { return api.Value{Kind: api.KNum, Num: n} }

func text(s string) api.Value { return api.Value{Kind: api.KText, Text: s} }

func fact(pred string, l ...api.Value) api.Fact { return api.Fact{Pred: pred, Args: l} }

// nums is a fact of numbers.
func nums(pred string, l ...int64) api.Fact {
	f := api.Fact{Pred: pred}
	for _, n := range l {
		f.Args = append(f.Args, num(n))
	}
	return f
}

func v(name string) api.Term { return api.Term{Var: name} }

func ex(t api.Term) api.Expr { return api.Expr{Term: t} }

func op(o api.Op, kids ...api.Expr) api.Expr { return api.Expr{Op: o, Kids: kids} }

func pos(pred string, l ...api.Term) api.Literal {
	return api.Literal{Kind: api.LPos, Atom: api.Atom{Pred: pred, Args: l}}
}

func cmp(left api.Expr, rel api.Rel, right api.Expr) api.Literal {
	return api.Literal{Kind: api.LCmp, Rel: rel, Left: left, Right: right}
}

func head(l ...api.Term) []api.Arg {
	var out []api.Arg
	for _, t := range l {
		out = append(out, api.Arg{Term: t})
	}
	return out
}

// many are so many unlike variables.
func many(count int) []api.Term {
	var out []api.Term
	for i := range count {
		out = append(out, v("V"+strconv.Itoa(i)))
	}
	return out
}

// wide is a fact of so many numbers.
func wide(pred string, columns int) api.Fact {
	f := api.Fact{Pred: pred}
	for i := range columns {
		f.Args = append(f.Args, num(int64(i)))
	}
	return f
}

func rulesOf(t *testing.T, source string) []api.Rule {
	t.Helper()
	p, fault := parse.Program(source)
	if (fault != api.Fault{}) {
		t.Fatalf("%s: %v", source, fault)
	}
	return p.Rules
}

func factsOf(t *testing.T, source string) []api.Fact {
	t.Helper()
	l, fault := parse.Facts(source)
	if (fault != api.Fault{}) {
		t.Fatalf("%s: %v", source, fault)
	}
	return l
}

// showFact writes a fact as a source has it, without the dot.
func showFact(f api.Fact) string {
	var out []string
	for _, v := range f.Args {
		s, _ := value.Show(v)
		out = append(out, s)
	}
	if len(out) == 0 {
		return f.Pred
	}
	return f.Pred + "(" + strings.Join(out, ", ") + ")"
}

// show writes facts as a row of a test has them.
func show(l []api.Fact) string {
	var out []string
	for _, f := range l {
		out = append(out, showFact(f))
	}
	return strings.Join(out, ", ")
}

// showRanks writes facts likewise, with their ranks behind them.
func showRanks(l []api.Ranked) string {
	var out []string
	for _, r := range l {
		out = append(out, showFact(r.Fact)+" "+strconv.Itoa(r.Rank))
	}
	return strings.Join(out, ", ")
}

// brief writes a thing for a message, which has no room for very long ones.
func brief(x any) string {
	out := fmt.Sprint(x)
	if len(out) > 800 {
		return out[:800] + " .."
	}
	return out
}

func wantGives(t *testing.T, r api.Rule, l []api.Fact, want string) {
	t.Helper()
	if got, err := naive.Gives(r, l); err != api.OK || show(got) != want {
		t.Errorf("Gives(%s, %s) = %s, %d; want %s", brief(r), brief(show(l)), brief(show(got)), err, brief(want))
	}
}

func wantStep(t *testing.T, rules []api.Rule, l []api.Fact, want string) {
	t.Helper()
	if got, err := naive.Step(rules, l); err != api.OK || show(got) != want {
		t.Errorf("Step(%s, %s) = %s, %d; want %s", brief(rules), brief(show(l)), brief(show(got)), err, brief(want))
	}
}

func wantRanks(t *testing.T, rules []api.Rule, l []api.Fact, want string) {
	t.Helper()
	if got, err := naive.Ranks(rules, l); err != api.OK || showRanks(got) != want {
		t.Errorf("Ranks(%s, %s) = %s, %d; want %s", brief(rules), brief(show(l)), brief(showRanks(got)), err, brief(want))
	}
}

type row struct{ rules, facts, want string }

// P14.2: the chapter's examples.
func TestGivesExamples(t *testing.T) {
	for _, row := range []row{
		{"p(X, Z) :- e(X, Y), e(Y, Z).", "e(2, 3). e(1, 2). e(2, 3).", "p(1, 3)"},
		{"p(X) :- e(X, _), not f(X), X > 0.", "e(1, 1). e(2, 2). e(0, 0). f(2).", "p(1)"},
		{"p(Y) :- e(X), Y = 10 / X.", "e(0). e(5). e(3).", "p(2), p(3)"},
	} {
		wantGives(t, rulesOf(t, row.rules)[0], factsOf(t, row.facts), row.want)
	}
}

// P14.2: what a rule gives, in order, each fact once.
func TestGives(t *testing.T) {
	const l = `n(2). n(1). n(10). n(b). n(""). n(1). e(2, 1). e(1, 2). e(1, 1). e(b, 10). g. t(1, 1, 2). t(1, 2, 2). t(2, 2, 2). p(4).`
	for _, row := range []row{
		{"p.", "", "p"},
		{"p(1).", "", "p(1)"},
		{`p("x y", -1).`, "", `p("x y", -1)`},
		{"p(3).", l, "p(3)"},
		{"p(4).", l, "p(4)"},
		{"p(X) :- p(X).", l, "p(4)"},
		{"p(X) :- p(X).", "", ""},
		{"n(X) :- p(X).", l, "n(4)"},
		{"p(X) :- n(X).", l, `p(1), p(2), p(10), p(""), p(b)`},
		{"p(7) :- n(X).", l, "p(7)"},
		{"p(7) :- n(_).", l, "p(7)"},
		{"p(7) :- ghost(_).", l, ""},
		{"h :- g.", l, "h"},
		{"h :- not g.", l, ""},
		{"h :- not ghost(1).", l, "h"},
		{"h :- not n(_).", l, ""},
		{"h :- n(X), not e(X, _), not e(_, X).", l, "h"},
		{"r(X, X, 0) :- e(X, X).", l, "r(1, 1, 0)"},
		{"r(Y, X) :- e(X, Y).", l, "r(1, 1), r(1, 2), r(2, 1), r(10, b)"},
		{"r(X) :- e(X, _).", l, "r(1), r(2), r(b)"},
		{"r(X) :- t(_, X, X).", l, "r(2)"},
		{"r(Z) :- t(X, Y, Z), X = Y.", l, "r(2)"},
		{"r(X) :- n(X), X >= b.", l, "r(b)"},
		{"r(X) :- n(X), not e(X, X), X < b.", l, `r(2), r(10), r("")`},
		{"r(Y) :- n(X), Y = X + 1.", l, "r(2), r(3), r(11)"},
		{"r(Y) :- n(X), Y = X % 2.", l, "r(0), r(1)"},
		{"r(Y) :- n(X), 20 / X = Y, Y > 5.", l, "r(10), r(20)"},
		{`r(Y) :- n(X), Y = X & "!".`, l, `r("!"), r("b!")`},
		{"r(Z) :- Z = Y, Y = X, X = 5.", l, "r(5)"},
		{"r(Y) :- Y = 1 / 0.", l, ""},
		{"r(X) :- n(X), 1 / 0 = 1 / 0.", l, ""},
		{"r(Y) :- n(X), Y = X, Y = 10.", l, "r(10)"},
		{"r(X, Y) :- n(X), n(Y), X < Y, Y < 10.", l, "r(1, 2)"},
		{"r(X) :- X = 9223372036854775807 + 1.", "", "r(-9223372036854775808)"},
	} {
		wantGives(t, rulesOf(t, row.rules)[0], factsOf(t, row.facts), row.want)
	}
}

// P14.3: the chapter's examples.
func TestStepExamples(t *testing.T) {
	wantStep(t, rulesOf(t, "p(X) :- e(X). q(X) :- p(X)."), factsOf(t, "e(1). p(2)."), "e(1), p(1), p(2), q(2)")
	wantStep(t, rulesOf(t, "p(X) :- e(X), not p(X)."), factsOf(t, "e(1)."), "e(1), p(1)")
}

// P14.3: the facts, and what the rules give over these alone; the rules need not be of one level.
func TestStep(t *testing.T) {
	for _, row := range []row{
		{"", "", ""},
		{"", "b. a. b.", "a, b"},
		{"", "e(2). e(1). d(a). e(2).", "d(a), e(1), e(2)"},
		{"p(1).", "", "p(1)"},
		{"p(1).", "p(1).", "p(1)"},
		{"p(1). p(1). q :- p(1).", "", "p(1)"},
		{"q(X) :- p(X). p(X) :- e(X).", "e(1). p(2).", "e(1), p(1), p(2), q(2)"},
		{"q(X) :- p(X). r(X) :- q(X). p(X) :- r(X).", "p(1). q(2). r(3).", "p(1), p(3), q(1), q(2), r(2), r(3)"},
		{"p(X) :- e(X), not p(X).", "e(1). p(1).", "e(1), p(1)"},
		{"p(X) :- e(X). q(X) :- e(X), not p(X).", "e(1). e(2). p(2).", "e(1), e(2), p(1), p(2), q(1)"},
		{"q(X) :- e(X), not p(X). p(X) :- e(X).", "e(1). e(2). p(2).", "e(1), e(2), p(1), p(2), q(1)"},
		{"p(Y) :- p(X), Y = X + 1.", "p(1).", "p(1), p(2)"},
		{"p(Y) :- p(X), Y = X + 1. q(Y) :- p(X), Y = X + 1.", "p(1). p(2).", "p(1), p(2), p(3), q(2), q(3)"},
		{"t(X, Z) :- t(X, Y), t(Y, Z).", "t(1, 2). t(2, 3). t(3, 4).", "t(1, 2), t(1, 3), t(2, 3), t(2, 4), t(3, 4)"},
		{"win(X) :- move(X, Y), not win(Y).", "move(1, 2). move(2, 3).", "move(1, 2), move(2, 3), win(1), win(2)"},
		{"p(X) :- ghost(X).", "e(1).", "e(1)"},
	} {
		wantStep(t, rulesOf(t, row.rules), factsOf(t, row.facts), row.want)
	}
}

// P14.4: the chapter's examples.
func TestRanksExamples(t *testing.T) {
	for _, row := range []row{
		{
			"t(X, Y) :- e(X, Y). t(X, Z) :- t(X, Y), e(Y, Z).", "e(1, 2). e(2, 3). e(3, 1).",
			"e(1, 2) 0, e(2, 3) 0, e(3, 1) 0, t(1, 1) 3, t(1, 2) 1, t(1, 3) 2, t(2, 1) 2, t(2, 2) 3, t(2, 3) 1, t(3, 1) 1, t(3, 2) 2, t(3, 3) 3",
		},
		{"p(X) :- p(X). p(Y) :- e(X), Y = X + 1.", "e(1). p(2).", "e(1) 0, p(2) 0"},
		{"", "b. a.", "a 0, b 0"},
	} {
		wantRanks(t, rulesOf(t, row.rules), factsOf(t, row.facts), row.want)
	}
}

// P14.4: all facts to which the steps lead, each with the first step that does.
func TestRanks(t *testing.T) {
	for _, row := range []row{
		{"", "", ""},
		{"", "e(2). e(1). e(2).", "e(1) 0, e(2) 0"},
		{"p.", "", "p 1"},
		{"p.", "p.", "p 0"},
		{"p(1). q(X) :- p(X). r(X) :- q(X).", "", "p(1) 1, q(1) 2, r(1) 3"},
		{"r(X) :- q(X). q(X) :- p(X). p(1).", "", "p(1) 1, q(1) 2, r(1) 3"},
		{"r(X) :- q(X). q(X) :- p(X). p(1).", "q(2). r(1).", "p(1) 1, q(1) 2, q(2) 0, r(1) 0, r(2) 1"},
		{"p(X) :- p(X).", "", ""},
		{"p(X) :- p(X).", "p(1).", "p(1) 0"},
		{"p(X) :- q(X). q(X) :- p(X).", "p(1). q(2).", "p(1) 0, p(2) 1, q(1) 1, q(2) 0"},
		{"p(X) :- q(X). q(X) :- r(X). r(X) :- p(X).", "p(1).", "p(1) 0, q(1) 2, r(1) 1"},
		{"t(X, Z) :- t(X, Y), t(Y, Z). t(X, Y) :- e(X, Y).", "e(1, 2). e(2, 3). e(3, 4). e(4, 5).", "e(1, 2) 0, e(2, 3) 0, e(3, 4) 0, e(4, 5) 0, t(1, 2) 1, t(1, 3) 2, t(1, 4) 3, t(1, 5) 3, t(2, 3) 1, t(2, 4) 2, t(2, 5) 3, t(3, 4) 1, t(3, 5) 2, t(4, 5) 1"},
		{"even(0). even(Y) :- odd(X), next(X, Y). odd(Y) :- even(X), next(X, Y).", "next(0, 1). next(1, 2). next(2, 3).", "even(0) 1, even(2) 3, next(0, 1) 0, next(1, 2) 0, next(2, 3) 0, odd(1) 2, odd(3) 4"},
		{"p(X) :- e(X), not f(X). q(X) :- p(X), not f(3).", "e(1). e(2). f(1).", "e(1) 0, e(2) 0, f(1) 0, p(2) 1, q(2) 2"},
		{"p(X) :- e(X), not f(X). q(X) :- p(X), not f(3).", "e(1). e(2). f(3).", "e(1) 0, e(2) 0, f(3) 0, p(1) 1, p(2) 1"},
		{"p(Y) :- e(X), Y = X + 1. q(X) :- p(X), X > 2. q(X) :- q(X).", "e(1). e(2). e(a).", "e(1) 0, e(2) 0, e(a) 0, p(2) 1, p(3) 1, q(3) 2"},
		{"p(Y) :- p(X), Y = 5, X < 5.", "p(1).", "p(1) 0, p(5) 1"},
		{"p(Y) :- p(X), m(Y), Y = X + 1.", "p(1). m(2). m(3). m(5).", "m(2) 0, m(3) 0, m(5) 0, p(1) 0, p(2) 1, p(3) 2"},
		{"q :- p(_). p(1). p(Y) :- e(X), Y = X + 1.", "e(1). e(2). e(2).", "e(1) 0, e(2) 0, p(1) 1, p(2) 1, p(3) 1, q 2"},
		{"s(X) :- a(X). s(X) :- b(X). b(X) :- c(X). c(X) :- d(X).", "a(1). d(1). d(2).", "a(1) 0, b(1) 2, b(2) 2, c(1) 1, c(2) 1, d(1) 0, d(2) 0, s(1) 1, s(2) 3"},
	} {
		wantRanks(t, rulesOf(t, row.rules), factsOf(t, row.facts), row.want)
	}
}

// P14.4: facts are told apart, however alike they look when they are written.
func TestFactsThatLookAlike(t *testing.T) {
	rules := rulesOf(t, `p(X, Y) :- e(X, Y). q(X) :- p(X, _). q(Y) :- p(_, Y). q("q(1)").`)
	l := []api.Fact{
		fact("e", num(1), text("2")), fact("e", text("1"), num(2)), fact("e", text("1"), text("2")), fact("e", num(1), num(2)),
		fact("e", text("a, b"), text("c")), fact("e", text("a"), text("b, c")), fact("e", text(`a", "b`), text("c")), fact("e", text("a"), text(`b", "c`)),
		fact("e", text("a)"), text("")), fact("e", text("a"), text(")")), fact("e", text(`\x00`), text("\x00")), fact("e", text(" "), text("\n")),
	}
	got, err := naive.Ranks(rules, l)
	count := map[string][3]int{}
	for _, r := range got {
		n := count[r.Fact.Pred]
		n[r.Rank]++
		count[r.Fact.Pred] = n
	}
	// q("q(1)") comes at step 1, the others at step 2: 17 unlike values stand in e.
	if err != api.OK || count["e"] != [3]int{12, 0, 0} || count["p"] != [3]int{0, 12, 0} || count["q"] != [3]int{0, 1, 17} {
		t.Errorf("Ranks: %v, %d, %s", count, err, showRanks(got))
	}
	wantStep(t, rules[:1], []api.Fact{fact("p", text("a"), text("b"))}, "p(a, b)")
	wantRanks(t, rulesOf(t, "p(1). pp(1). p1 :- p(1). p_1 :- pp(1)."), nil, "p(1) 1, p1 2, p_1 2, pp(1) 1")
}

// P14.2 to P14.4, R1: as many columns, literals, variables and bytes as there may be.
func TestWideRules(t *testing.T) {
	long := "e" + strings.Repeat("a", 119)
	r := api.Rule{Pred: "r", Head: head(many(24)...), Body: slices.Repeat([]api.Literal{pos(long, many(24)...)}, 16)}
	l := []api.Fact{wide(long, 24)}
	wantGives(t, r, l, showFact(wide("r", 24)))
	wantStep(t, []api.Rule{r}, l, show([]api.Fact{wide(long, 24), wide("r", 24)}))
	wantRanks(t, []api.Rule{r}, l, showFact(wide(long, 24))+" 0, "+showFact(wide("r", 24))+" 1")
	for _, columns := range []int{0, 1, 24} {
		wantGives(t, api.Rule{Pred: "q_r", Head: head(many(columns)...), Body: []api.Literal{pos("e", many(columns)...)}}, []api.Fact{wide("e", columns)}, showFact(wide("q_r", columns)))
		wantStep(t, nil, []api.Fact{wide("e", columns)}, showFact(wide("e", columns)))
		wantRanks(t, nil, []api.Fact{wide("e", columns)}, showFact(wide("e", columns))+" 0")
	}
	most := text(strings.Repeat("a", 200))
	half := text(strings.Repeat("a", 100))
	double := rulesOf(t, "p(Y) :- w(X), Y = X & X.")
	wantRanks(t, double, []api.Fact{fact("w", half), fact("w", most)}, showFact(fact("p", most))+" 1, "+show([]api.Fact{fact("w", half)})+" 0, "+showFact(fact("w", most))+" 0")
	deep := ex(v("X"))
	for range 7 {
		deep = op(api.OpNeg, deep)
	}
	wantGives(t, api.Rule{Pred: "p", Head: head(v("Y")), Body: []api.Literal{pos("n", v("X")), cmp(ex(v("Y")), api.RelEq, deep)}}, []api.Fact{nums("n", 5)}, "p(-5)")
}

// P14.4, R1: a long way to go, through one rule over many facts and through many rules, each of which reads few of all facts.
func TestManySteps(t *testing.T) {
	const long = 250
	var l []api.Fact
	var rules []api.Rule
	for i := range int64(long) {
		l = append(l, nums("e", i, i+1))
		from, to := "p"+strconv.Itoa(int(i)), "p"+strconv.Itoa(int(i)+1)
		rules = append(rules, api.Rule{Pred: to, Head: head(v("X")), Body: []api.Literal{pos(from, v("X"))}})
	}
	got, err := naive.Ranks(rulesOf(t, "t(Y) :- t(X), e(X, Y)."), append(l, nums("t", 0)))
	if err != api.OK || len(got) != 2*long+1 {
		t.Fatalf("Ranks: %d facts, %d", len(got), err)
	}
	for i, r := range got[long:] {
		if showFact(r.Fact) != "t("+strconv.Itoa(i)+")" || r.Rank != i {
			t.Fatalf("%s has rank %d", showFact(r.Fact), r.Rank)
		}
	}
	got, err = naive.Ranks(rules, []api.Fact{nums("p0", 7)})
	if err != api.OK || len(got) != long+1 {
		t.Fatalf("Ranks: %d facts, %d", len(got), err)
	}
	for _, r := range got {
		if r.Fact.Pred != "p"+strconv.Itoa(r.Rank) || showFact(r.Fact) != r.Fact.Pred+"(7)" {
			t.Fatalf("%s has rank %d", showFact(r.Fact), r.Rank)
		}
	}
}

// P14.2, P14.3: many facts, and rules that give the same ones over and over.
func TestManyFacts(t *testing.T) {
	const count = 20000
	var l, want []api.Fact
	for i := range int64(count) {
		l = append(l, nums("e", i*7919%count, i%3))
	}
	for i := range int64(count) {
		want = append(want, nums("p", i))
	}
	rules := rulesOf(t, "p(X) :- e(X, _). q(Y) :- e(_, Y). p(X) :- e(X, Y).")
	wantGives(t, rules[0], l, show(want))
	wantGives(t, rules[1], l, "q(0), q(1), q(2)")
	got, err := naive.Step(rules, append(l, l...))
	if err != api.OK || len(got) != 2*count+3 || show(got[count:]) != show(want)+", q(0), q(1), q(2)" || show(got[:count]) != show(value.Facts(l)) {
		t.Errorf("Step: %d facts, %d", len(got), err)
	}
}
