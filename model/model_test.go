package model_test

import (
	"fmt"
	"math"
	"slices"
	"strconv"
	"strings"
	"testing"

	"pedigree/api"
	"pedigree/model"
	"pedigree/parse"
	"pedigree/value"
)

func num(n int64) api.Value { return api.Value{Kind: api.KNum, Num: n} }

func text(s string) api.Value { return api.Value{Kind: api.KText, Text: s} }

func fact(pred string, l ...api.Value) api.Fact { return api.Fact{Pred: pred, Args: l} }

// nums is a fact of numbers.
func nums(pred string, l ...int64) api.Fact {
	f := api.Fact{Pred: pred}
	for _, n := range l {
		f.Args = append(f.Args, num(n))
	}
	return f
}

func v(name string) api.Term { return api.Term{Var: name} }

func ex(t api.Term) api.Expr { return api.Expr{Term: t} }

func op(o api.Op, kids ...api.Expr) api.Expr { return api.Expr{Op: o, Kids: kids} }

func pos(pred string, l ...api.Term) api.Literal {
	return api.Literal{Kind: api.LPos, Atom: api.Atom{Pred: pred, Args: l}}
}

func cmp(left api.Expr, rel api.Rel, right api.Expr) api.Literal {
	return api.Literal{Kind: api.LCmp, Rel: rel, Left: left, Right: right}
}

func head(l ...api.Term) []api.Arg {
	var out []api.Arg
	for _, t := range l {
		out = append(out, api.Arg{Term: t})
	}
	return out
}

func count() api.Arg { return api.Arg{Agg: api.AggCount} }

func programOf(t *testing.T, source string) api.Program {
	t.Helper()
	p, fault := parse.Program(source)
	if (fault != api.Fault{}) {
		t.Fatalf("%s: %v", source, fault)
	}
	return p
}

func factsOf(t *testing.T, source string) []api.Fact {
	t.Helper()
	l, fault := parse.Facts(source)
	if (fault != api.Fault{}) {
		t.Fatalf("%s: %v", source, fault)
	}
	return l
}

func queryOf(t *testing.T, source string) api.Atom {
	t.Helper()
	q, fault := parse.Query(source)
	if (fault != api.Fault{}) {
		t.Fatalf("%s: %v", source, fault)
	}
	return q
}

// showTuple writes values as a source has them.
func showTuple(l []api.Value) string {
	var out []string
	for _, v := range l {
		s, _ := value.Show(v)
		out = append(out, s)
	}
	return "(" + strings.Join(out, ", ") + ")"
}

func showTuples(l [][]api.Value) string {
	var out []string
	for _, x := range l {
		out = append(out, showTuple(x))
	}
	return strings.Join(out, ", ")
}

// showFact writes a fact as a source has it, without the dot.
func showFact(f api.Fact) string {
	if len(f.Args) == 0 {
		return f.Pred
	}
	return f.Pred + showTuple(f.Args)
}

// show writes facts as a row of a test has them.
func show(l []api.Fact) string {
	var out []string
	for _, f := range l {
		out = append(out, showFact(f))
	}
	return strings.Join(out, ", ")
}

// brief writes a thing for a message, which has no room for very long ones.
func brief(x any) string {
	out := fmt.Sprint(x)
	if len(out) > 800 {
		return out[:800] + " .."
	}
	return out
}

func wantModel(t *testing.T, p api.Program, l []api.Fact, want string) {
	t.Helper()
	if got, err := model.Model(p, l); err != api.OK || show(got) != want {
		t.Errorf("Model(%s, %s) = %s, %d; want %s", brief(p.Rules), brief(show(l)), brief(show(got)), err, brief(want))
	}
}

func wantUpto(t *testing.T, p api.Program, l []api.Fact, n int32, want string) {
	t.Helper()
	if got, err := model.Upto(p, l, api.Level{N: n}); err != api.OK || show(got) != want {
		t.Errorf("Upto(%s, %s, %d) = %s, %d; want %s", brief(p.Rules), brief(show(l)), n, brief(show(got)), err, brief(want))
	}
}

func wantIs(t *testing.T, p api.Program, l, m []api.Fact, want bool) {
	t.Helper()
	if got := model.Is(p, l, m); got != want {
		t.Errorf("Is(%s, %s, %s) = %v", brief(p.Rules), brief(show(l)), brief(m), got)
	}
}

func wantAnswers(t *testing.T, q api.Atom, m []api.Fact, want string) {
	t.Helper()
	if got := model.Answers(q, m); showTuples(got) != want {
		t.Errorf("Answers(%v, %s) = %s; want %s", q, brief(show(m)), brief(showTuples(got)), brief(want))
	}
}

type row struct{ rules, facts, want string }

func wantRows(t *testing.T, l []row) {
	t.Helper()
	for _, r := range l {
		wantModel(t, programOf(t, r.rules), factsOf(t, r.facts), r.want)
	}
}

const (
	family = "anc(X, Y) :- par(X, Y). anc(X, Z) :- par(X, Y), anc(Y, Z). root(X) :- par(X, _), not anc(_, X)."
	counts = "n(count()) :- e(X). big :- n(X), X > 1."
	makes  = "q(Y) :- e(X), Y = X + 1. p(X) :- q(X), not e(X). p(X) :- p(X)."
)

// P17.2: the chapter's examples of Model. (Those that are refused stand with the errors.)
func TestExamplesOfModel(t *testing.T) {
	wantRows(t, []row{
		{family, "par(a, b). par(b, c).", "anc(a, b), anc(a, c), anc(b, c), par(a, b), par(b, c), root(a)"},
		{counts, "e(1). e(2).", "big, e(1), e(2), n(2)"},
		{counts, "e(1). n(7).", "big, e(1), n(1), n(7)"},
		{makes, "e(1). e(2).", "e(1), e(2), p(3), q(2), q(3)"},
	})
}

// P17.3 to P17.5: the chapter's examples of the other calls.
func TestExamplesOfTheOthers(t *testing.T) {
	p, l := programOf(t, family), factsOf(t, "par(a, b). par(b, c).")
	wantUpto(t, p, l, 0, "anc(a, b), anc(a, c), anc(b, c), par(a, b), par(b, c)")
	wantUpto(t, p, l, 1, "anc(a, b), anc(a, c), anc(b, c), par(a, b), par(b, c), root(a)")
	wantUptoCode(t, p, l, api.Level{N: -1}, api.ErrArg)
	wantUptoCode(t, p, l, api.Level{Pred: "anc"}, api.ErrArg)
	wantUpto(t, programOf(t, counts), factsOf(t, "e(1). n(7)."), 0, "e(1)")

	wantIs(t, api.Program{}, factsOf(t, "a. b."), factsOf(t, "b. a. a."), true)
	wantIs(t, api.Program{}, factsOf(t, "a."), factsOf(t, "a. b."), false)

	m := mustModel(t, p, l)
	wantAnswers(t, queryOf(t, "par(X, X)?"), m, "")
	wantAnswers(t, queryOf(t, "par(a, X)?"), m, "(a, b)")
	wantAnswers(t, queryOf(t, "par(_, _)?"), m, "(a, b), (b, c)")
	wantAnswers(t, queryOf(t, "par(X)?"), m, "")
}

// P0.1: the document's examples of the whole, by the model.
func TestExamplesOfTheWhole(t *testing.T) {
	const ancestors = "anc(X, Y) :- par(X, Y). anc(X, Z) :- par(X, Y), anc(Y, Z)."
	const parents = "par(ann, bob). par(bob, cy). par(cy, dan). par(eve, dan)."
	const made = "next(X, Y) :- n(X), Y = X + 1. half(X, Y) :- n(X), Y = 10 / X."
	for _, r := range []struct{ rules, facts, query, want string }{
		{ancestors, parents, "anc(bob, X)?", "(bob, cy), (bob, dan)"},
		{ancestors, parents, "ghost(X)?", ""},
		{ancestors, parents, "par(eve, dan)?", "(eve, dan)"},
		{ancestors, parents, "anc(_, _)?", "(ann, bob), (ann, cy), (ann, dan), (bob, cy), (bob, dan), (cy, dan), (eve, dan)"},
		{"reach(X, Y) :- edge(X, Y). reach(X, Z) :- reach(X, Y), reach(Y, Z).", "edge(1, 2). edge(2, 1).", "reach(X, X)?", "(1, 1), (2, 2)"},
		{"alive(X) :- node(X), not dead(X). dead(X) :- hit(X). dead(Y) :- dead(X), near(X, Y).", "node(1). node(2). node(3). hit(1). near(1, 2).", "alive(X)?", "(3)"},
		{"sales(D, count(), sum(S), max(S)) :- sold(D, P, S).", "sold(east, 1, 10). sold(east, 2, 10). sold(west, 3, -4).", "sales(D, N, S, M)?", "(east, 2, 20, 10), (west, 1, -4, -4)"},
		{made, "n(9223372036854775807). n(0).", "next(X, Y)?", "(0, 1), (9223372036854775807, -9223372036854775808)"},
		{made, "n(9223372036854775807). n(0).", "half(X, Y)?", "(9223372036854775807, 0)"},
		{`shout(X, Y) :- w(X), Y = X & "!", len(Y) <= 3.`, `w(ab). w(abc). w("\xc3\xa9").`, "shout(X, Y)?", `(ab, "ab!"), ("\xc3\xa9", "\xc3\xa9!")`},
	} {
		wantAnswers(t, queryOf(t, r.query), mustModel(t, programOf(t, r.rules), factsOf(t, r.facts)), r.want)
	}
}

// P17.2: no rules, rules without a body, rules that give what is given, facts of which the program knows nothing.
func TestModelOfLittle(t *testing.T) {
	wantRows(t, []row{
		{"", "", ""},
		{"", "b. a. b.", "a, b"},
		{"", "e(2). e(1). d(a). e(2).", "d(a), e(1), e(2)"},
		{"p.", "", "p"},
		{"p.", "p. p.", "p"},
		{"p(1). p(2). p(1).", "p(2). p(3).", "p(1), p(2), p(3)"},
		{"k(5, count()).", "", "k(5, 1)"},
		{"k(5, count()). k(X, X) :- k(X, 1).", "k(7, 1). k(8, 2).", "k(5, 1), k(5, 5), k(7, 1), k(7, 7), k(8, 2)"},
		{"p(X) :- e(X).", "f(1). z.", "f(1), z"},
		{"p(X) :- p(X).", "p(2). p(1).", "p(1), p(2)"},
		{"p :- not q.", "", "p"},
		{"p :- not q.", "q.", "q"},
		{"p(X) :- X = 1 + 1, not e(X).", "e(1).", "e(1), p(2)"},
		{"p(count()) :- X = 1, not e(X).", "", "p(1)"},
		{"p(count()) :- X = 1, not e(X).", "e(1).", "e(1)"},
	})
}

// P17.2: nots over what is worked out, over what is given beside it, over nothing; level upon level.
func TestNots(t *testing.T) {
	const game = "win(X) :- move(X, Y), stuck(Y). stuck(X) :- pos(X), not live(X). live(X) :- move(X, _)."
	const even = "a(X) :- e(X), not b(X). b(X) :- e(X), not c(X). c(X) :- e(X), not d(X). d(X) :- e(X), X > 1."
	wantRows(t, []row{
		{game, "pos(1). pos(2). pos(3). move(1, 2). move(2, 3).", "live(1), live(2), move(1, 2), move(2, 3), pos(1), pos(2), pos(3), stuck(3), win(2)"},
		{game, "pos(1). pos(2). move(1, 2). live(2). stuck(2).", "live(1), live(2), move(1, 2), pos(1), pos(2), stuck(2), win(1)"},
		{even, "e(1). e(2).", "a(1), b(2), c(1), d(2), e(1), e(2)"},
		{even, "e(1). e(2). d(1).", "b(1), b(2), d(1), d(2), e(1), e(2)"},
		{"p(X) :- e(X), not q(X). q(X) :- f(X). q(X) :- g(X), not h(X).", "e(1). e(2). e(3). f(1). g(2). g(3). h(3).", "e(1), e(2), e(3), f(1), g(2), g(3), h(3), p(3), q(1), q(2)"},
		{"p :- not q(_, 1). q(X, Y) :- e(X, Y).", "e(1, 2).", "e(1, 2), p, q(1, 2)"},
		{"p :- not q(_, 1). q(X, Y) :- e(X, Y).", "e(1, 1).", "e(1, 1), q(1, 1)"},
		{"p(X) :- e(X), not ghost(X).", "e(1).", "e(1), p(1)"},
	})
}

// P17.2: aggregates of what is worked out, of what other aggregates give, and rules of the same level that go on from what they give.
func TestAggregates(t *testing.T) {
	const tree = "anc(X, Y) :- par(X, Y). anc(X, Z) :- par(X, Y), anc(Y, Z). kin(X, count()) :- anc(X, Y). most(max(N)) :- kin(_, N). top(X) :- kin(X, N), most(N)."
	wantRows(t, []row{
		{tree, "par(a, b). par(b, c).", "anc(a, b), anc(a, c), anc(b, c), kin(a, 2), kin(b, 1), most(2), par(a, b), par(b, c), top(a)"},
		{tree, "par(a, b). kin(c, 9).", "anc(a, b), kin(a, 1), kin(c, 9), most(9), par(a, b), top(c)"},
		{"a(sum(X)) :- e(X, _). a(X) :- a(Y), e(X, Y).", "e(1, 3). e(2, 1).", "a(1), a(2), a(3), e(1, 3), e(2, 1)"},
		{"a(X) :- a(Y), e(X, Y). a(sum(X)) :- e(X, _).", "e(1, 3). e(2, 1). a(0).", "a(0), a(1), a(2), a(3), e(1, 3), e(2, 1)"},
		{"a(min(X)) :- e(X). a(max(X)) :- e(X). a(count()) :- e(X).", "e(4). e(9). e(7).", "a(3), a(4), a(9), e(4), e(7), e(9)"},
		{"t(D, sum(S)) :- sold(D, S).", "sold(a, 1). sold(a, 2). sold(b, x). sold(b, 1).", "sold(a, 1), sold(a, 2), sold(b, 1), sold(b, x), t(a, 3)"},
		{"n(count()) :- p(X). p(X) :- e(X), not f(X).", "e(1). e(2). e(3). f(2).", "e(1), e(2), e(3), f(2), n(2), p(1), p(3)"},
		{"p(X) :- e(X), not n(X). n(count()) :- e(X).", "e(1). e(2). e(3).", "e(1), e(2), e(3), n(3), p(1), p(2)"},
		{"n(count()) :- e(X).", "", ""},
	})
}

// P17.2: rules that make values, of values that others have made; and one that makes none though it stands in a cycle.
func TestMadeValues(t *testing.T) {
	wantRows(t, []row{
		{"b(Y) :- a(X), Y = X + 1. c(Y) :- b(X), Y = X * 2. d(X) :- c(X), b(X).", "a(1). a(3).", "a(1), a(3), b(2), b(4), c(4), c(8), d(4)"},
		{"q(Y) :- e(X), Y = X + 1. q(X) :- q(X). r(X) :- q(X). q(X) :- r(X).", "e(1). r(7).", "e(1), q(2), q(7), r(2), r(7)"},
		{"p(X) :- p(Y), e(Y, X), X > Y + 1.", "p(1). e(1, 2). e(1, 3). e(3, 9).", "e(1, 2), e(1, 3), e(3, 9), p(1), p(3), p(9)"},
		{"p(X, N) :- e(X), N = len(X). p(X, N) :- f(X, N), not e(X).", "e(ab). f(ab, 7). f(c, 7).", "e(ab), f(ab, 7), f(c, 7), p(ab, 2), p(c, 7)"},
	})
}

// P17.3: each level, given facts of a higher one, levels far above all; predicates that do not stand in the program are of level 0.
func TestLevelsOfUpto(t *testing.T) {
	const tower = "a(X) :- e(X). b(X) :- e(X), not a(X). b(9). c(count()) :- b(X). d(Y) :- c(X), Y = X + 1. d(X) :- d(X), e(X)."
	p, l := programOf(t, tower), factsOf(t, "e(1). a(5). b(6). c(7). d(8). z(1, 2).")
	for n, want := range []string{
		"a(1), a(5), e(1), z(1, 2)",
		"a(1), a(5), b(6), b(9), e(1), z(1, 2)",
		"a(1), a(5), b(6), b(9), c(2), c(7), e(1), z(1, 2)",
		"a(1), a(5), b(6), b(9), c(2), c(7), d(3), d(8), e(1), z(1, 2)",
		"a(1), a(5), b(6), b(9), c(2), c(7), d(3), d(8), e(1), z(1, 2)",
	} {
		wantUpto(t, p, l, int32(n), want)
	}
	wantUpto(t, p, l, math.MaxInt32, show(mustModel(t, p, l)))
	wantUpto(t, api.Program{}, factsOf(t, "b. a. b."), 0, "a, b")
	wantUpto(t, api.Program{}, nil, 5, "")
	wantUpto(t, programOf(t, "p :- not q."), factsOf(t, "p."), 0, "")
	wantUpto(t, programOf(t, "p. k(count())."), nil, 0, "k(1), p")
}

// P17.4: facts in any order, any number of times; one less, one more, one that is another; and no model at all.
func TestIs(t *testing.T) {
	p, l := programOf(t, counts), factsOf(t, "e(1). n(7).")
	for source, want := range map[string]bool{
		"big. e(1). n(1). n(7).":                   true,
		"n(7). n(1). big. e(1). n(7). n(7). e(1).": true,
		"e(1). n(1). n(7).":                        false,
		"big. e(1). n(7).":                         false,
		"big. e(1). n(1). n(7). n(8).":             false,
		"big. e(1). n(1). n(7). z.":                false,
		"big. e(1). n(1). n(7). big(1).":           false,
		"big. e(1). n(1). n(6).":                   false,
		"":                                         false,
	} {
		wantIs(t, p, l, factsOf(t, source), want)
	}
	wantIs(t, api.Program{}, nil, nil, true)
	wantIs(t, api.Program{}, []api.Fact{}, []api.Fact{}, true)
	wantIs(t, api.Program{}, nil, factsOf(t, "a."), false)
	wantIs(t, programOf(t, "p(count()) :- p(X)."), nil, nil, false)
	wantIs(t, programOf(t, "p(X) :- e(X)."), factsOf(t, "e(1, 2)."), factsOf(t, "e(1, 2)."), false)
}

// P17.4: facts that may not be are no facts of a model, though they are nearly one.
func TestIsOfNoFacts(t *testing.T) {
	l := []api.Fact{nums("p", 1), fact("q", text("a"))}
	for _, f := range []api.Fact{
		{}, fact("P"), nums("P", 1), fact("p", api.Value{}), fact("p", api.Value{Kind: api.KNum, Num: 1, Text: "a"}), fact("p", api.Value{Kind: 3, Num: 1}), fact("p", api.Value{Kind: -1, Num: 1}),
		fact("q", api.Value{Kind: api.KText, Num: 1, Text: "a"}), fact("q", text(strings.Repeat("a", 201))), {Pred: "p", Args: make([]api.Value, 25)},
	} {
		wantIs(t, api.Program{}, l, slices.Concat(l, []api.Fact{f}), false)
		wantIs(t, api.Program{}, l, []api.Fact{f, l[1]}, false)
		wantIs(t, api.Program{}, l, []api.Fact{l[0], f}, false)
		wantIs(t, api.Program{}, []api.Fact{f}, []api.Fact{f}, false)
	}
}

// P17.5: variables that stand twice, values, blanks, no columns; facts in any order, twice, of several numbers of columns.
func TestAnswers(t *testing.T) {
	m := factsOf(t, `par(b, c). par(a, b). par(c, c). par(a). anc(a, b). par(a, b). big. big. t(2, 1, 2). t(1, 1, 1). t(1, 2, 3). t(1, 1, x). t(x, 1, x). t(x, "1", x).`)
	for query, want := range map[string]string{
		"par(X, X)?":           "(c, c)",
		"par(a, X)?":           "(a, b)",
		"par(X, c)?":           "(b, c), (c, c)",
		"par(_, _)?":           "(a, b), (b, c), (c, c)",
		"par(X, Y)?":           "(a, b), (b, c), (c, c)",
		"par(a, b)?":           "(a, b)",
		"par(b, a)?":           "",
		"par(X)?":              "(a)",
		"par(b)?":              "",
		"par(X, Y, Z)?":        "",
		"par?":                 "",
		"anc(_, b)?":           "(a, b)",
		"big?":                 "()",
		"big(X)?":              "",
		"ghost?":               "",
		"ghost(_)?":            "",
		"t(X, Y, X)?":          `(1, 1, 1), (2, 1, 2), (x, 1, x), (x, "1", x)`,
		"t(X, X, Y)?":          "(1, 1, 1), (1, 1, x)",
		"t(X, X, X)?":          "(1, 1, 1)",
		"t(X, 1, X)?":          "(1, 1, 1), (2, 1, 2), (x, 1, x)",
		"t(_, 1, _)?":          "(1, 1, 1), (1, 1, x), (2, 1, 2), (x, 1, x)",
		`t(x, "1", _)?`:        `(x, "1", x)`,
		`t(1, 1, "x")?`:        "(1, 1, x)",
		"t(Long_Name1, B, _)?": `(1, 1, 1), (1, 1, x), (1, 2, 3), (2, 1, 2), (x, 1, x), (x, "1", x)`,
	} {
		wantAnswers(t, queryOf(t, query), m, want)
	}
	wantAnswers(t, queryOf(t, "par(X, Y)?"), nil, "")
	wantAnswers(t, queryOf(t, "big?"), []api.Fact{}, "")
	if got := model.Answers(queryOf(t, "big?"), m); len(got) != 1 || len(got[0]) != 0 {
		t.Errorf("Answers(big) = %v", got)
	}
}

// P17.5: answers rise by the order of tuples: numbers by size, below texts, these byte by byte.
func TestAnswersRise(t *testing.T) {
	m := factsOf(t, `p(b, 1). p("", 2). p(10, a). p(9, a). p(-9223372036854775808, 1). p(a, 2). p("B", 1). p(a, 10). p(9223372036854775807, 1). p(ab, 1). p(9, 8).`)
	wantAnswers(t, queryOf(t, "p(X, Y)?"), m, `(-9223372036854775808, 1), (9, 8), (9, a), (10, a), (9223372036854775807, 1), ("", 2), ("B", 1), (a, 2), (a, 10), (ab, 1), (b, 1)`)
}

// P17.2, P17.5: as many columns and literals, and as long a name, as may be; it is a reserved one.
func TestGreat(t *testing.T) {
	long := "q_" + strings.Repeat("a", 118)
	p := api.Program{Rules: []api.Rule{{Pred: long, Head: head(many(24)...), Body: slices.Repeat([]api.Literal{pos("e", many(24)...)}, 16)}}}
	wide := api.Fact{Pred: "e"}
	for i := range 24 {
		wide.Args = append(wide.Args, num(int64(i)))
	}
	wantModel(t, p, []api.Fact{wide}, "e"+showTuple(wide.Args)+", "+long+showTuple(wide.Args))
	wantAnswers(t, api.Atom{Pred: long, Args: many(24)}, mustModel(t, p, []api.Fact{wide}), showTuple(wide.Args))
}

// many are so many unlike variables.
func many(count int) []api.Term {
	var out []api.Term
	for i := range count {
		out = append(out, v("V"+strconv.Itoa(i)))
	}
	return out
}

// P17.2, P17.3: as many levels as a user's program may have, over each of which a not looks down.
func TestManyLevels(t *testing.T) {
	var source strings.Builder
	source.WriteString("p0(1).")
	for i := range 499 {
		fmt.Fprintf(&source, " p%d(X) :- e(X), not p%d(X).", i+1, i)
	}
	p, l := programOf(t, source.String()), factsOf(t, "e(1). e(2).")
	all := mustModel(t, p, l)
	if len(all) != 2+1+499 {
		t.Fatalf("%d facts", len(all))
	}
	for i := range 500 {
		wantAnswers(t, api.Atom{Pred: "p" + strconv.Itoa(i), Args: []api.Term{v("X")}}, all, []string{"(1)", "(2)"}[i%2])
	}
	for _, n := range []int32{0, 1, 250, 498, 499} {
		some, err := model.Upto(p, l, api.Level{N: n})
		if err != api.OK || len(some) != 2+1+int(n) {
			t.Errorf("Upto %d has %d facts, %d", n, len(some), err)
		}
	}
}

// P17.2: as many facts as a user may hand in, turned about, each seen by several levels.
func TestManyFacts(t *testing.T) {
	var l []api.Fact
	for i := range api.MaxFacts {
		l = append(l, nums("e", int64(i*40503%api.MaxFacts)))
	}
	p := programOf(t, "n(count(), sum(X), min(X), max(X)) :- e(X). small(X) :- e(X), X < 3. rest(X) :- e(X), not small(X). m(count()) :- rest(X). last(X) :- m(N), X = N + 2, e(X).")
	all := mustModel(t, p, l)
	if len(all) != api.MaxFacts+1+3+api.MaxFacts-3+1+1 {
		t.Errorf("%d facts", len(all))
	}
	wantAnswers(t, queryOf(t, "n(A, B, C, D)?"), all, "(65536, 2147450880, 0, 65535)")
	wantAnswers(t, queryOf(t, "small(X)?"), all, "(0), (1), (2)")
	wantAnswers(t, queryOf(t, "m(X)?"), all, "(65533)")
	wantAnswers(t, queryOf(t, "last(X)?"), all, "(65535)")
	if !isRising(all) {
		t.Error("the facts don't rise")
	}
}
