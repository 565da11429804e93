package par_test

import (
	"fmt"
	"slices"
	"strconv"
	"strings"
	"testing"

	"pedigree/api"
	"pedigree/model"
	"pedigree/par"
	"pedigree/parse"
	"pedigree/value"
)

func num(n int64) api.Value { return api.Value{Kind: api.KNum, Num: n} }

func text(s string) api.Value { return api.Value{Kind: api.KText, Text: s} }

func fact(pred string, l ...api.Value) api.Fact { return api.Fact{Pred: pred, Args: l} }

// nums is a fact of numbers.
func nums(pred string, l ...int64) api.Fact {
	f := api.Fact{Pred: pred}
	for _, n := range l {
		f.Args = append(f.Args, num(n))
	}
	return f
}

func v(name string) api.Term { return api.Term{Var: name} }

func ex(t api.Term) api.Expr { return api.Expr{Term: t} }

func op(o api.Op, kids ...api.Expr) api.Expr { return api.Expr{Op: o, Kids: kids} }

func pos(pred string, l ...api.Term) api.Literal {
	return api.Literal{Kind: api.LPos, Atom: api.Atom{Pred: pred, Args: l}}
}

func cmp(left api.Expr, rel api.Rel, right api.Expr) api.Literal {
	return api.Literal{Kind: api.LCmp, Rel: rel, Left: left, Right: right}
}

func head(l ...api.Term) []api.Arg {
	var out []api.Arg
	for _, t := range l {
		out = append(out, api.Arg{Term: t})
	}
	return out
}

func count() api.Arg { return api.Arg{Agg: api.AggCount} }

// many are so many unlike variables.
func many(count int) []api.Term {
	var out []api.Term
	for i := range count {
		out = append(out, v("V"+strconv.Itoa(i)))
	}
	return out
}

// wide is a fact of so many numbers.
func wide(pred string, columns int) api.Fact {
	f := api.Fact{Pred: pred}
	for i := range columns {
		f.Args = append(f.Args, num(int64(i)))
	}
	return f
}

func rulesOf(t *testing.T, source string) []api.Rule {
	t.Helper()
	p, fault := parse.Program(source)
	if (fault != api.Fault{}) {
		t.Fatalf("%s: %v", source, fault)
	}
	return p.Rules
}

func factsOf(t *testing.T, source string) []api.Fact {
	t.Helper()
	l, fault := parse.Facts(source)
	if (fault != api.Fault{}) {
		t.Fatalf("%s: %v", source, fault)
	}
	return l
}

// showTuple writes values as a source has them.
func showTuple(l []api.Value) string {
	var out []string
	for _, v := range l {
		s, _ := value.Show(v)
		out = append(out, s)
	}
	return "(" + strings.Join(out, ", ") + ")"
}

// showFact writes a fact as a source has it, without the dot.
func showFact(f api.Fact) string {
	if len(f.Args) == 0 {
		return f.Pred
	}
	return f.Pred + showTuple(f.Args)
}

// show writes facts as a row of a test has them.
func show(l []api.Fact) string {
	var out []string
	for _, f := range l {
		out = append(out, showFact(f))
	}
	return strings.Join(out, ", ")
}

// brief writes a thing for a message, which has no room for very long ones.
func brief(x any) string {
	out := fmt.Sprint(x)
	if len(out) > 800 {
		return out[:800] + " .."
	}
	return out
}

// stats writes what a run tells of itself: the rounds, what each found, the joins.
func stats(s api.Stats) string {
	return fmt.Sprint(s.Rounds, s.New, s.Joins)
}

// crews are all numbers of workers that may be.
func crews() []int {
	var out []int
	for n := range api.MaxWorkers {
		out = append(out, n+1)
	}
	return out
}

// someCrews are some of them, where all would take long.
func someCrews() []int { return []int{1, 2, 3, 5, 16} }

// wantRunBy asks for the facts and the stats, as stats writes them.
func wantRunBy(t *testing.T, workers int, rules []api.Rule, l []api.Fact, facts, told string) {
	t.Helper()
	if got, s, err := par.Run(rules, l, workers, nil); err != api.OK || show(got) != facts || stats(s) != told {
		t.Errorf("Run(%s, %s, %d) = %s, %s, %d; want %s, %s", brief(rules), brief(show(l)), workers, brief(show(got)), brief(stats(s)), err, brief(facts), brief(told))
	}
}

func wantModelBy(t *testing.T, workers int, p api.Program, l []api.Fact, want string) {
	t.Helper()
	if got, err := par.Model(p, l, workers, nil); err != api.OK || show(got) != want {
		t.Errorf("Model(%s, %s, %d) = %s, %d; want %s", brief(p.Rules), brief(show(l)), workers, brief(show(got)), err, brief(want))
	}
}

// runRow is a run of rules and facts; what it answers, and its stats.
type runRow struct{ rules, facts, want, stats string }

func wantRuns(t *testing.T, l []runRow) {
	t.Helper()
	for _, r := range l {
		for _, n := range crews() {
			wantRunBy(t, n, rulesOf(t, r.rules), factsOf(t, r.facts), r.want, r.stats)
		}
	}
}

// modelRow is a program over facts; how many rounds it has in all, and its model.
type modelRow struct {
	rules, facts string
	rounds       int
	want         string
}

func wantModels(t *testing.T, l []modelRow) {
	t.Helper()
	for _, r := range l {
		p, given := api.Program{Rules: rulesOf(t, r.rules)}, factsOf(t, r.facts)
		for _, n := range someCrews() {
			wantModelBy(t, n, p, given, r.want)
			wantModelRounds(t, n, p, given, r.rounds, r.want)
		}
	}
}

// wantModelRounds asks for just so many rounds: a stop that lets so many be is left with none, one that lets fewer be stops it.
func wantModelRounds(t *testing.T, workers int, p api.Program, l []api.Fact, rounds int, want string) {
	t.Helper()
	s := par.NewStop(rounds)
	if got, err := par.Model(p, l, workers, s); err != api.OK || show(got) != want || s.Stopped() || left(s) != 0 {
		t.Errorf("Model(%s, %s, %d, a stop of %d) = %s, %d, stopped %v; want %s", brief(p.Rules), brief(show(l)), workers, rounds, brief(show(got)), err, s.Stopped(), brief(want))
	}
	if rounds == 0 {
		return
	}
	s = par.NewStop(rounds - 1)
	if got, err := par.Model(p, l, workers, s); err != api.ErrStopped || len(got) != 0 || !s.Stopped() {
		t.Errorf("Model(%s, %s, %d, a stop of %d) = %s, %d, stopped %v; want ErrStopped", brief(p.Rules), brief(show(l)), workers, rounds-1, brief(show(got)), err, s.Stopped())
	}
}

// left is how many rounds a stop lets be; it is stopped behind that. -1: they are more than any test asks for.
func left(s *par.Stop) int {
	for n := range 10_000 {
		if _, _, err := par.Run(nil, nil, 1, s); err != api.OK {
			return n
		}
	}
	return -1
}

const (
	ancestors = "anc(X, Y) :- par(X, Y). anc(X, Y) :- par(X, Z), anc(Z, Y)."
	parents   = "par(1, 2). par(2, 3). par(3, 4)."
	family    = "anc(1, 2), anc(1, 3), anc(1, 4), anc(2, 3), anc(2, 4), anc(3, 4), par(1, 2), par(2, 3), par(3, 4)"
	counts    = "n(count()) :- e(X). big :- n(X), X > 1."
)

// wantStopped holds what a run by a stop answers, and whether it is stopped then.
func wantStopped(t *testing.T, rules, facts string, workers int, s *par.Stop, code api.Errno, stopped bool) {
	t.Helper()
	got, x, err := par.Run(rulesOf(t, rules), factsOf(t, facts), workers, s)
	if err != code || s.Stopped() != stopped || err != api.OK && (len(got) != 0 || stats(x) != "0 [] 0") {
		t.Errorf("Run(%s, %s, %d) = %s, %s, %d, stopped %v; want %d, %v", rules, facts, workers, show(got), stats(x), err, s.Stopped(), code, stopped)
	}
}

// P26.1, P26.3: the chapter's examples of Run.
func TestExamplesOfRun(t *testing.T) {
	wantRuns(t, []runRow{{ancestors, parents, family, "4 [3 2 1] 6"}})
	for _, n := range []int{0, 17} {
		wantStopped(t, ancestors, parents, n, nil, api.ErrArg, false)
	}
}

// P26.2, P26.3: the chapter's examples of stops.
func TestExamplesOfStops(t *testing.T) {
	s := par.NewStop(9)
	wantStopped(t, ancestors, parents, 2, s, api.OK, false)
	wantStopped(t, ancestors, parents, 3, s, api.OK, false)
	wantStopped(t, ancestors, parents, 2, s, api.ErrStopped, true)
	wantStopped(t, "", "", 1, s, api.ErrStopped, true)
	s = par.NewStop(0)
	wantStopped(t, ancestors, parents, 99, s, api.ErrArg, false)
	wantStopped(t, "", "", 1, s, api.ErrStopped, true)
	s = par.NewStop(-1)
	wantStopped(t, ancestors, parents, 4, s, api.OK, false)
	s.Now()
	if !s.Stopped() {
		t.Error("Now does not stop")
	}
	wantStopped(t, ancestors, parents, 4, s, api.ErrStopped, true)
}

// P26.4, P26.5: the chapter's examples of Model. (What is refused stands with the errors.)
func TestExamplesOfModel(t *testing.T) {
	wantModels(t, []modelRow{
		{counts, "e(1). e(2).", 2, "big, e(1), e(2), n(2)"},
		{"", "b. a.", 0, "a, b"},
	})
}

// P26.3: what is run over and over has the rounds and joins that it has by one.
func TestRuns(t *testing.T) {
	const reach = "reach(X, Y) :- edge(X, Y). reach(X, Z) :- reach(X, Y), reach(Y, Z)."
	wantRuns(t, []runRow{
		{"", "", "", "1 [] 0"},
		{"", "e(2). e(1). d(a). e(2).", "d(a), e(1), e(2)", "1 [] 0"},
		{ancestors, "", "", "1 [] 0"},
		{ancestors, "par(1, 1).", "anc(1, 1), par(1, 1)", "2 [1] 2"},
		{ancestors, "anc(2, 3). par(1, 2).", "anc(1, 2), anc(1, 3), anc(2, 3), par(1, 2)", "2 [2] 2"},
		{reach, "edge(1, 2). edge(2, 1).", "edge(1, 2), edge(2, 1), reach(1, 1), reach(1, 2), reach(2, 1), reach(2, 2)", "3 [2 2] 10"},
		{"p(1). q :- p(_). p(Y) :- e(X), Y = X + 1.", "e(1). e(2). e(2).", "e(1), e(2), p(1), p(2), p(3), q", "3 [3 1] 6"},
		{"s(X) :- e(X), not f(X).", "e(1). e(2). f(2).", "e(1), e(2), f(2), s(1)", "2 [1] 1"},
		{"p.", "", "p", "2 [1] 1"},
		{"p.", "p.", "p", "1 [] 1"},
		{"p. p.", "", "p", "2 [1] 2"},
		{"p :- not q.", "", "p", "2 [1] 1"},
		{"p :- not q.", "q.", "q", "1 [] 0"},
		{"p(X) :- X = 1 + 1, not e(X).", "e(1).", "e(1), p(2)", "2 [1] 1"},
		{"p(X) :- X = 1 / 0.", "", "", "1 [] 0"},
		{"p(Z) :- Z = Y, Y = X, X = 5. q(X) :- p(X).", "", "p(5), q(5)", "3 [1 1] 2"},
		{"r(X) :- q(X). q(X) :- p(X). p(1).", "q(2). r(1).", "p(1), q(1), q(2), r(1), r(2)", "3 [2 1] 4"},
		{"p(X) :- q(X). q(X) :- r(X). r(X) :- p(X).", "p(1).", "p(1), q(1), r(1)", "3 [1 1] 3"},
		{"t(X, Z) :- t(X, Y), t(Y, Z).", "t(1, 2). t(2, 3). t(3, 4). t(4, 5).", "t(1, 2), t(1, 3), t(1, 4), t(1, 5), t(2, 3), t(2, 4), t(2, 5), t(3, 4), t(3, 5), t(4, 5)", "3 [3 3] 10"},
		{"e(X, Z) :- e(X, Y), f(Y, Z). f(X, Z) :- e(X, Y), f(Y, Z).", "e(1, 2). f(2, 3). f(3, 4).", "e(1, 2), e(1, 3), e(1, 4), f(1, 3), f(1, 4), f(2, 3), f(3, 4)", "3 [2 2] 4"},
		{"p :- e(_, _), e(_, _).", "e(1, 1). e(1, 2). e(2, 1).", "e(1, 1), e(1, 2), e(2, 1), p", "2 [1] 9"},
		{"n(9) :- n(_), n(_), n(_).", "n(1). n(2).", "n(1), n(2), n(9)", "2 [1] 27"},
		{"n(X) :- n(Y), m(X), n(Z).", "n(1). m(2).", "m(2), n(1), n(2)", "2 [1] 4"},
		{"p(X) :- e(1, X), not f(X).", "e(1, 1). e(2, 2). e(1, 3). e(1, 4). f(4).", "e(1, 1), e(1, 3), e(1, 4), e(2, 2), f(4), p(1), p(3)", "2 [2] 2"},
		{"p(X) :- e(1, 2), e(X, _).", "e(3, 3). e(1, 2). e(4, 4).", "e(1, 2), e(3, 3), e(4, 4), p(1), p(3), p(4)", "2 [3] 3"},
		{"p(X) :- e(X, X).", "e(1, 1). e(1, 2). e(2, 2). e(3, 3). e(2, 1).", "e(1, 1), e(1, 2), e(2, 1), e(2, 2), e(3, 3), p(1), p(2), p(3)", "2 [3] 3"},
		{"p(X) :- X = 2, e(X, _). p(Y) :- e(X, Y), p(X).", "e(1, 2). e(2, 3). e(2, 4). e(3, 5).", "e(1, 2), e(2, 3), e(2, 4), e(3, 5), p(2), p(3), p(4), p(5)", "4 [1 2 1] 5"},
		{"h :- g, g, g.", "g.", "g, h", "2 [1] 1"},
	})
}

// P26.4, P26.5: how many rounds the levels have: one at least for each level that a rule's predicate has, also for aggregates alone; what they give, and what is given, has come ahead of the rounds.
func TestModels(t *testing.T) {
	const tower = "a(X) :- e(X). b(X) :- e(X), not a(X). b(9). c(count()) :- b(X). d(Y) :- c(X), Y = X + 1. d(X) :- d(X), e(X)."
	wantModels(t, []modelRow{
		{"", "", 0, ""},
		{"", "e(2). e(1). e(2).", 0, "e(1), e(2)"},
		{"p.", "", 2, "p"},
		{"p.", "p.", 1, "p"},
		{"p(X) :- p(X).", "", 1, ""},
		{ancestors, parents, 4, family},
		{ancestors, "par(1, 2). anc(1, 2).", 1, "anc(1, 2), par(1, 2)"},
		{"p(X) :- e(X).", "e(1). e(2). p(1). p(2).", 1, "e(1), e(2), p(1), p(2)"},
		{"p(X) :- e(X).", "e(1). e(2). p(1).", 2, "e(1), e(2), p(1), p(2)"},
		{"q(X) :- e(X), not f(X).", "e(1). f(2).", 2, "e(1), f(2), q(1)"},
		{"q(X) :- e(X), not f(X).", "e(1). f(2). q(1).", 1, "e(1), f(2), q(1)"},
		{"q(X) :- e(X), not f(X).", "e(2). f(2).", 1, "e(2), f(2)"},
		{"p(X) :- e(X). q(X) :- e(X), not p(X).", "e(1). f(2).", 3, "e(1), f(2), p(1)"},
		{"p(X) :- e(X). q(X) :- f(X), not p(X).", "e(1). f(2).", 4, "e(1), f(2), p(1), q(2)"},
		{"n(count()) :- e(X).", "e(1). e(2).", 1, "e(1), e(2), n(2)"},
		{"n(count()) :- e(X).", "", 1, ""},
		{"n(count()) :- e(X). n(X) :- n(Y), X = 2, e(X).", "e(1). e(2).", 1, "e(1), e(2), n(2)"},
		{"n(count()) :- e(X). n(X) :- n(Y), X = 1, e(X).", "e(1). e(2).", 2, "e(1), e(2), n(1), n(2)"},
		{"n(count()) :- e(X). m(X) :- n(X). l(X) :- m(X).", "e(1). e(2).", 3, "e(1), e(2), l(2), m(2), n(2)"},
		{"n(count()) :- e(X). m(X) :- n(X). l(X) :- m(X). n(5).", "e(1). e(2).", 4, "e(1), e(2), l(2), l(5), m(2), m(5), n(2), n(5)"},
		{"n(count()) :- e(X). m(X) :- e(X), not n(X).", "e(1). e(2).", 3, "e(1), e(2), m(1), n(2)"},
		{"n(count()) :- e(X). m(sum(X)) :- n(X). l(max(X)) :- m(X).", "e(1). e(2).", 3, "e(1), e(2), l(2), m(2), n(2)"},
		{"n(count()) :- e(X). n(sum(X)) :- e(X). n(min(X)) :- e(X).", "e(2). e(3).", 1, "e(2), e(3), n(2), n(5)"},
		{"n(count()) :- e(X). big :- n(X), X > 1.", "e(1). n(7).", 2, "big, e(1), n(1), n(7)"},
		{"k(5, count()). k(X, X) :- k(X, 1).", "k(7, 1). k(8, 2).", 2, "k(5, 1), k(5, 5), k(7, 1), k(7, 7), k(8, 2)"},
		{"q(Y) :- e(X), Y = X + 1. p(X) :- q(X), not e(X). p(X) :- p(X).", "e(1). e(2).", 3, "e(1), e(2), p(3), q(2), q(3)"},
		{tower, "e(1). a(5). b(6). c(7). d(8). z(1, 2).", 7, "a(1), a(5), b(6), b(9), c(2), c(7), d(3), d(8), e(1), z(1, 2)"},
		{"a(X) :- e(X), not b(X). b(X) :- e(X), not c(X). c(X) :- e(X), X > 1.", "e(1). e(2).", 6, "a(2), b(1), c(2), e(1), e(2)"},
	})
}

// P0.1: the document's examples of the whole, by several workers.
func TestExamplesOfTheWhole(t *testing.T) {
	const ancestors = "anc(X, Y) :- par(X, Y). anc(X, Z) :- par(X, Y), anc(Y, Z)."
	const parents = "par(ann, bob). par(bob, cy). par(cy, dan). par(eve, dan)."
	const made = "next(X, Y) :- n(X), Y = X + 1. half(X, Y) :- n(X), Y = 10 / X."
	for _, r := range []struct{ rules, facts, query, want string }{
		{ancestors, parents, "anc(bob, X)?", "(bob, cy), (bob, dan)"},
		{ancestors, parents, "ghost(X)?", ""},
		{ancestors, parents, "par(eve, dan)?", "(eve, dan)"},
		{ancestors, parents, "anc(_, _)?", "(ann, bob), (ann, cy), (ann, dan), (bob, cy), (bob, dan), (cy, dan), (eve, dan)"},
		{"reach(X, Y) :- edge(X, Y). reach(X, Z) :- reach(X, Y), reach(Y, Z).", "edge(1, 2). edge(2, 1).", "reach(X, X)?", "(1, 1), (2, 2)"},
		{"alive(X) :- node(X), not dead(X). dead(X) :- hit(X). dead(Y) :- dead(X), near(X, Y).", "node(1). node(2). node(3). hit(1). near(1, 2).", "alive(X)?", "(3)"},
		{"sales(D, count(), sum(S), max(S)) :- sold(D, P, S).", "sold(east, 1, 10). sold(east, 2, 10). sold(west, 3, -4).", "sales(D, N, S, M)?", "(east, 2, 20, 10), (west, 1, -4, -4)"},
		{made, "n(9223372036854775807). n(0).", "next(X, Y)?", "(0, 1), (9223372036854775807, -9223372036854775808)"},
		{made, "n(9223372036854775807). n(0).", "half(X, Y)?", "(9223372036854775807, 0)"},
		{`shout(X, Y) :- w(X), Y = X & "!", len(Y) <= 3.`, `w(ab). w(abc). w("\xc3\xa9").`, "shout(X, Y)?", `(ab, "ab!"), ("\xc3\xa9", "\xc3\xa9!")`},
	} {
		q, fault := parse.Query(r.query)
		if (fault != api.Fault{}) {
			t.Fatalf("%s: %v", r.query, fault)
		}
		for _, n := range crews() {
			m, err := par.Model(api.Program{Rules: rulesOf(t, r.rules)}, factsOf(t, r.facts), n, nil)
			var out []string
			for _, tuple := range model.Answers(q, m) {
				out = append(out, showTuple(tuple))
			}
			if got := strings.Join(out, ", "); err != api.OK || got != r.want {
				t.Errorf("%s over %s by %d: %s has %s, %d; want %s", r.rules, r.facts, n, r.query, got, err, r.want)
			}
		}
	}
}

// P26.3: facts are told apart, however alike they look when they are written.
func TestFactsThatLookAlike(t *testing.T) {
	rules := rulesOf(t, `p(X, Y) :- e(X, Y). q(X) :- p(X, _). q(Y) :- p(_, Y). q("q(1)").`)
	l := []api.Fact{
		fact("e", num(1), text("2")), fact("e", text("1"), num(2)), fact("e", text("1"), text("2")), fact("e", num(1), num(2)),
		fact("e", text("a, b"), text("c")), fact("e", text("a"), text("b, c")), fact("e", text(`a", "b`), text("c")), fact("e", text("a"), text(`b", "c`)),
		fact("e", text("a)"), text("")), fact("e", text("a"), text(")")), fact("e", text(`\x00`), text("\x00")), fact("e", text(" "), text("\n")),
	}
	for _, n := range crews() {
		// q("q(1)") comes in round 1, the others in round 2: 17 unlike values stand in e.
		got, s, err := par.Run(rules, l, n, nil)
		if err != api.OK || len(got) != 12+12+18 || stats(s) != "3 [13 17] 37" {
			t.Errorf("Run by %d: %s, %s, %d", n, show(got), stats(s), err)
		}
	}
}

// R4: no list and an empty one are the same.
func TestEmptyLists(t *testing.T) {
	for _, rules := range [][]api.Rule{nil, {}} {
		for _, l := range [][]api.Fact{nil, {}} {
			wantRunBy(t, 3, rules, l, "", "1 [] 0")
			wantModelBy(t, 3, api.Program{Rules: rules}, l, "")
		}
	}
	for _, r := range []api.Rule{{Pred: "p"}, {Pred: "p", Head: []api.Arg{}, Body: []api.Literal{}}} {
		for _, l := range [][]api.Fact{{nums("a")}, {{Pred: "a", Args: []api.Value{}}}} {
			wantRunBy(t, 2, []api.Rule{r}, l, "a, p", "2 [1] 1")
			wantModelBy(t, 2, api.Program{Rules: []api.Rule{r}}, slices.Clone(l), "a, p")
		}
	}
}
