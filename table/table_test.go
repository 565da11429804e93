package table_test

import (
	"fmt"
	"strconv"
	"strings"
	"testing"

	"pedigree/api"
	"pedigree/parse"
	"pedigree/print"
	"pedigree/table"
)

const ancestors = "anc(X, Y) :- par(X, Y). anc(X, Y) :- par(X, Z), anc(Z, Y)."

func num(n int64) api.Value { return api.Value{Kind: api.KNum, Num: n} }

func text(s string) api.Value { return api.Value{Kind: api.KText, Text: s} }

func v(name string) api.Term { return api.Term{Var: name} }

func n(k int64) api.Term { return api.Term{Val: num(k)} }

func ex(t api.Term) api.Expr { return api.Expr{Term: t} }

func op(o api.Op, kids ...api.Expr) api.Expr { return api.Expr{Op: o, Kids: kids} }

func atom(pred string, l ...api.Term) api.Atom { return api.Atom{Pred: pred, Args: l} }

func pos(pred string, l ...api.Term) api.Literal {
	return api.Literal{Kind: api.LPos, Atom: atom(pred, l...)}
}

func not(pred string, l ...api.Term) api.Literal {
	return api.Literal{Kind: api.LNot, Atom: atom(pred, l...)}
}

func cmp(left api.Expr, rel api.Rel, right api.Expr) api.Literal {
	return api.Literal{Kind: api.LCmp, Rel: rel, Left: left, Right: right}
}

func head(l ...api.Term) []api.Arg {
	var out []api.Arg
	for _, t := range l {
		out = append(out, api.Arg{Term: t})
	}
	return out
}

func fact(pred string, l ...int64) api.Fact {
	out := api.Fact{Pred: pred}
	for _, k := range l {
		out.Args = append(out.Args, num(k))
	}
	return out
}

// many are n unlike variables.
func many(n int) []api.Term {
	var out []api.Term
	for i := range n {
		out = append(out, v("X"+strconv.Itoa(i)))
	}
	return out
}

func rulesOf(t *testing.T, source string) []api.Rule {
	t.Helper()
	p, fault := parse.Program(source)
	if (fault != api.Fault{}) {
		t.Fatalf("%s: %v", source, fault)
	}
	return p.Rules
}

func factsOf(t *testing.T, source string) []api.Fact {
	t.Helper()
	l, fault := parse.Facts(source)
	if (fault != api.Fault{}) {
		t.Fatalf("%s: %v", source, fault)
	}
	return l
}

func queryOf(t *testing.T, source string) api.Atom {
	t.Helper()
	q, fault := parse.Query(source)
	if (fault != api.Fault{}) {
		t.Fatalf("%s: %v", source, fault)
	}
	return q
}

// showRules writes rules as a source has them; those that are none as they may be as Go has them.
func showRules(l []api.Rule) string {
	if s, err := print.Program(api.Program{Rules: l}); err == api.OK {
		return s
	}
	return fmt.Sprintf("%v", l)
}

func showAtom(a api.Atom) string {
	if s, err := print.Query(a); err == api.OK {
		return strings.TrimSuffix(s, "?")
	}
	return fmt.Sprintf("%v", a)
}

func showFacts(l []api.Fact) string {
	if s, err := print.Facts(l); err == api.OK {
		return s
	}
	return fmt.Sprintf("%v", l)
}

// showTuples writes tuples as facts of a name, in one line.
func showTuples(pred string, l [][]api.Value) string {
	var out []api.Fact
	for _, tuple := range l {
		out = append(out, api.Fact{Pred: pred, Args: tuple})
	}
	return strings.TrimSpace(strings.ReplaceAll(showFacts(out), "\n", " "))
}

// showTables writes each table in a line: its goal, a colon, its answers.
func showTables(l []api.Table) string {
	var out strings.Builder
	for _, x := range l {
		out.WriteString(strings.TrimSpace(showAtom(x.Goal)+": "+showTuples(x.Goal.Pred, x.Answers)) + "\n")
	}
	return out.String()
}

// brief cuts a text for a message, which has no room for very long ones.
func brief(s string) string {
	if len(s) > 1200 {
		return s[:1200] + " .."
	}
	return s
}

// called writes a call of Solve.
func called(rules []api.Rule, l []api.Fact, q api.Atom) string {
	return "Solve(" + brief(showRules(rules)) + ", " + brief(showFacts(l)) + ", " + showAtom(q) + ")"
}

func mustSolve(t *testing.T, rules []api.Rule, l []api.Fact, q api.Atom) ([][]api.Value, []api.Table) {
	t.Helper()
	answers, tables, err := table.Solve(rules, l, q)
	if err != api.OK {
		t.Fatalf("%s: %d", called(rules, l, q), err)
	}
	return answers, tables
}

// wantSolve: the answers, as facts of the query's predicate, and the tables, each in a line.
func wantSolve(t *testing.T, rules, facts, query, answers string, tables ...string) {
	t.Helper()
	q := queryOf(t, query)
	got, told := mustSolve(t, rulesOf(t, rules), factsOf(t, facts), q)
	if x := showTuples(q.Pred, got); x != answers {
		t.Errorf("Solve(%s, %s, %s): %s; want %s", rules, facts, query, x, answers)
	}
	want := strings.Join(tables, "\n")
	if x := strings.TrimSpace(showTables(told)); x != want {
		t.Errorf("Solve(%s, %s, %s): the tables:\n%s\nwant:\n%s", rules, facts, query, x, want)
	}
}

// The chapter's examples. (P22.2)
func TestExamples(t *testing.T) {
	const par = "par(1, 2). par(2, 3). par(7, 8)."
	wantSolve(t, ancestors, par, "anc(1, X)?", "anc(1, 2). anc(1, 3).",
		"anc(1, V0): anc(1, 2). anc(1, 3).", "anc(2, V0): anc(2, 3).", "anc(3, V0):")
	wantSolve(t, ancestors, par, "anc(X, 3)?", "anc(1, 3). anc(2, 3).",
		"anc(2, 3): anc(2, 3).", "anc(3, 3):", "anc(8, 3):", "anc(V0, 3): anc(1, 3). anc(2, 3).")
	wantSolve(t, ancestors, par, "anc(X, X)?", "",
		"anc(2, V0): anc(2, 3).", "anc(3, V0):", "anc(8, V0):", "anc(V0, V1): anc(1, 2). anc(1, 3). anc(2, 3). anc(7, 8).")
	wantSolve(t, ancestors, par, "par(X, 2)?", "par(1, 2).")
	wantSolve(t, ancestors, "anc(5, 6). par(4, 5).", "anc(4, X)?", "anc(4, 5). anc(4, 6).",
		"anc(4, V0): anc(4, 5). anc(4, 6).", "anc(5, V0): anc(5, 6).")
	wantSolve(t, "r(Z) :- W = Z + 1, r(W), e(Z, Y).", "r(1). e(0, 0).", "r(0)?", "r(0).",
		"r(0): r(0).", "r(V0): r(0). r(1).")
	// the first two of the document's ten examples
	wantSolve(t, "anc(X, Y) :- par(X, Y). anc(X, Z) :- par(X, Y), anc(Y, Z).", "par(ann, bob). par(bob, cy). par(cy, dan). par(eve, dan).", "anc(bob, X)?", "anc(bob, cy). anc(bob, dan).",
		"anc(bob, V0): anc(bob, cy). anc(bob, dan).", "anc(cy, V0): anc(cy, dan).", "anc(dan, V0):")
	wantSolve(t, "reach(X, Y) :- edge(X, Y). reach(X, Z) :- reach(X, Y), reach(Y, Z).", "edge(1, 2). edge(2, 1).", "reach(X, X)?", "reach(1, 1). reach(2, 2).",
		"reach(1, V0): reach(1, 1). reach(1, 2).", "reach(2, V0): reach(2, 1). reach(2, 2).", "reach(V0, V1): reach(1, 1). reach(1, 2). reach(2, 1). reach(2, 2).")
}

// P22.2: which goal a query is, and how a goal is told as an atom.
func TestGoalsAsAtoms(t *testing.T) {
	const rule = "p(A, B, C, D, E) :- e(A, B, C, D, E)."
	for _, c := range [][3]string{
		{"p(b, X, a, _, 0)?", "p(b, 7, a, 8, 0).", "p(b, V0, a, V1, 0): p(b, 7, a, 8, 0)."},
		{"p(_, X, V3, X, V0)?", "", "p(V0, V1, V2, V3, V4): p(b, 7, a, 8, 0)."},
		{"p(V4, V3, V2, V1, V0)?", "p(b, 7, a, 8, 0).", "p(V0, V1, V2, V3, V4): p(b, 7, a, 8, 0)."},
		{"p(X, 7, X, X, 0)?", "", "p(V0, 7, V1, V2, 0): p(b, 7, a, 8, 0)."},
		{"p(b, 7, a, 8, 0)?", "p(b, 7, a, 8, 0).", "p(b, 7, a, 8, 0): p(b, 7, a, 8, 0)."},
		{`p(b, 7, a, 8, "")?`, "", `p(b, 7, a, 8, ""):`},
	} {
		wantSolve(t, rule, "e(b, 7, a, 8, 0).", c[0], c[1], c[2])
	}
	wantSolve(t, "p :- e.", "e.", "p?", "p.", "p: p.")
	wantSolve(t, "p :- e.", "", "p?", "", "p:")
	wantSolve(t, "p :- p, e.", "e. p.", "p?", "p.", "p: p.")
}

// P22.2: goals by names, then by patterns, both byte by byte, then by their values: numbers below texts.
func TestOrderOfGoals(t *testing.T) {
	wantSolve(t, `
		p(X) :- w(X), t(X, Y), t(_, X), t(Y, X), ab(X), a(X), a_b(Z).
		t(X, Y) :- e(X, Y). a(X) :- n(X). ab(X) :- n(X). a_b(X) :- n(X).`,
		`w(10). w(9). w(-1). w(b). w(""). w(ab). e(9, 10). e(10, 10). e(-1, 9). e(b, b). e("", ab). e(ab, ""). n(9). n(10). n(-1). n(b). n(ab). n("").`, "p(X)?",
		`p(10). p(""). p(ab). p(b).`,
		`a(10): a(10).`, `a(""): a("").`, `a(ab): a(ab).`, `a(b): a(b).`,
		`a_b(V0): a_b(-1). a_b(9). a_b(10). a_b(""). a_b(ab). a_b(b).`,
		`ab(10): ab(10).`, `ab(""): ab("").`, `ab(ab): ab(ab).`, `ab(b): ab(b).`,
		`p(V0): p(10). p(""). p(ab). p(b).`,
		`t(10, 9):`, `t(10, 10): t(10, 10).`, `t("", ab): t("", ab).`, `t(ab, ""): t(ab, "").`, `t(b, b): t(b, b).`,
		`t(-1, V0): t(-1, 9).`, `t(9, V0): t(9, 10).`, `t(10, V0): t(10, 10).`, `t("", V0): t("", ab).`, `t(ab, V0): t(ab, "").`, `t(b, V0): t(b, b).`,
		`t(V0, -1):`, `t(V0, 9): t(-1, 9).`, `t(V0, 10): t(9, 10). t(10, 10).`, `t(V0, ""): t(ab, "").`, `t(V0, ab): t("", ab).`, `t(V0, b): t(b, b).`)
}

// P22.2: given facts of a goal's predicate are answers, and are gone on with; those that nobody asks for are not.
func TestGivenFacts(t *testing.T) {
	wantSolve(t, "p(X) :- r(X). r(X) :- e(X), X > 5.", "p(1). p(2). r(3). r(7). e(4). e(6).", "p(X)?", "p(1). p(2). p(3). p(6). p(7).",
		"p(V0): p(1). p(2). p(3). p(6). p(7).", "r(V0): r(3). r(6). r(7).")
	wantSolve(t, "p(X) :- r(X). r(X) :- e(X), X > 5.", "p(1). p(2). r(3). r(7). e(4). e(6).", "p(3)?", "p(3).", "p(3): p(3).", "r(3): r(3).")
	wantSolve(t, "p(X) :- r(X). r(X) :- e(X), X > 5.", "p(1). p(2). r(3). r(7). e(4). e(6).", "p(4)?", "", "p(4):", "r(4):")
	wantSolve(t, "p(X, Y) :- p(Y, X).", "p(1, 2).", "p(2, X)?", "p(2, 1).", "p(2, V0): p(2, 1).", "p(V0, 2): p(1, 2).")
	// a fact that a rule gives too is there once; a rule may say a fact
	wantSolve(t, "p(1). p(2) :- e. p(X) :- p(X).", "p(1). p(1). e.", "p(X)?", "p(1). p(2).", "p(V0): p(1). p(2).")
}

// P22.2: a rule whose head can't be what is asked asks nothing.
func TestHeads(t *testing.T) {
	const rules = "p(1, X) :- r(X). p(X, X) :- s(X). p(X, 2) :- u(X). r(X) :- e(X). s(X) :- e(X). u(X) :- e(X)."
	wantSolve(t, rules, "e(1). e(2). e(3).", "p(3, 1)?", "", "p(3, 1):")
	wantSolve(t, rules, "e(1). e(2). e(3).", "p(3, 3)?", "p(3, 3).", "p(3, 3): p(3, 3).", "s(3): s(3).")
	wantSolve(t, rules, "e(1). e(2). e(3).", "p(1, 3)?", "p(1, 3).", "p(1, 3): p(1, 3).", "r(3): r(3).")
	wantSolve(t, rules, "e(1). e(2). e(3).", "p(3, 2)?", "p(3, 2).", "p(3, 2): p(3, 2).", "u(3): u(3).")
	wantSolve(t, rules, "e(1). e(2). e(3).", "p(2, X)?", "p(2, 2).", "p(2, V0): p(2, 2).", "s(2): s(2).", "u(2): u(2).")
	wantSolve(t, rules, "e(1). e(2). e(3).", "p(X, 3)?", "p(1, 3). p(3, 3).", "p(V0, 3): p(1, 3). p(3, 3).", "r(3): r(3).", "s(3): s(3).")
	wantSolve(t, rules, "e(2). e(3).", "p(X, X)?", "p(2, 2). p(3, 3).",
		"p(V0, V1): p(1, 2). p(1, 3). p(2, 2). p(3, 2). p(3, 3).", "r(V0): r(2). r(3).", "s(V0): s(2). s(3).", "u(V0): u(2). u(3).")
	// a number is no text, whatever its digits are
	wantSolve(t, `p(1) :- r(1). p("1") :- r("1"). r(X) :- e(X).`, `e(1). e("1").`, `p("1")?`, `p("1").`, `p("1"): p("1").`, `r("1"): r("1").`)
}

// P22.2: what is asked in which turn: a test or a not as soon as its variables are known, else the atoms as they stand, then equations that give a variable.
func TestOrderOfAsking(t *testing.T) {
	// the atom ahead is asked first, whatever is known of the one behind
	wantSolve(t, "p(X) :- r(Y), s(X, Y). r(X) :- e(X). s(X, Y) :- e(X), e(Y).", "e(1). e(2).", "p(1)?", "p(1).",
		"p(1): p(1).", "r(V0): r(1). r(2).", "s(1, 1): s(1, 1).", "s(1, 2): s(1, 2).")
	// a test behind an atom comes ahead of it, if it can: then nothing is asked
	wantSolve(t, "p(X) :- r(X), X > 1. r(X) :- e(X).", "e(1). e(2).", "p(1)?", "", "p(1):")
	wantSolve(t, "p(X) :- r(X), X > 1. r(X) :- e(X).", "e(1). e(2).", "p(2)?", "p(2).", "p(2): p(2).", "r(2): r(2).")
	wantSolve(t, "p(X) :- r(X), X > 1. r(X) :- e(X).", "e(1). e(2).", "p(X)?", "p(2).", "p(V0): p(2).", "r(V0): r(1). r(2).")
	wantSolve(t, "p(X) :- r(X), not f(X). r(X) :- e(X).", "e(1). e(2). f(1).", "p(1)?", "", "p(1):")
	wantSolve(t, "p(X) :- r(X), not f(X, _). r(X) :- e(X).", "e(1). e(2). f(1, 1).", "p(2)?", "p(2).", "p(2): p(2).", "r(2): r(2).")
	wantSolve(t, "p(X) :- r(X), 1 > 2. r(X) :- e(X).", "e(1).", "p(X)?", "", "p(V0):")
	wantSolve(t, "p(X) :- r(X), 1 = a. r(X) :- e(X).", "e(1).", "p(X)?", "", "p(V0):")
	// an equation gives nothing as long as an atom is left: the atom is asked without it
	wantSolve(t, "p(X) :- X = 3, r(X). r(X) :- e(X).", "e(1). e(3).", "p(X)?", "p(3).", "p(V0): p(3).", "r(V0): r(1). r(3).")
	wantSolve(t, "p(X) :- X = 3, r(X). r(X) :- e(X).", "e(1). e(3).", "p(1)?", "", "p(1):")
	wantSolve(t, "p(X) :- X = 3, r(X). r(X) :- e(X).", "e(1). e(3).", "p(3)?", "p(3).", "p(3): p(3).", "r(3): r(3).")
	wantSolve(t, "p(X, N) :- N = X, e(X), M = N, not f(M), r(X). r(X) :- e(X).", "e(1). e(2). f(2).", "p(X, Y)?", "p(1, 1).",
		"p(V0, V1): p(1, 1).", "r(1): r(1).", "r(2): r(2).")
	wantSolve(t, "p(X, N) :- N = X, e(X), M = N, not f(M), r(X). r(X) :- e(X).", "e(1). e(2). f(2).", "p(X, 2)?", "",
		"p(V0, 2):", "r(2): r(2).")
	// equations one behind the other, from either side, with values that are made on the way and told nowhere
	wantSolve(t, "p(X) :- e(X), Z * 2 = W, Z = Y + 1, X = Y, W > 5. p(X) :- 1 + X = Z, r(X), Z < 3. r(X) :- e(X).", "e(1). e(2). e(3).", "p(X)?", "p(1). p(2). p(3).",
		"p(V0): p(1). p(2). p(3).", "r(V0): r(1). r(2). r(3).")
	// what has no value doesn't hold
	wantSolve(t, "p(X) :- e(X), Y = 6 / X, Y > 2. p(X) :- e(X), 6 / X != 3.", "e(0). e(1). e(2). e(a).", "p(X)?", "p(1). p(2).", "p(V0): p(1). p(2).")
}

// P22.2: variables that stand twice, values and blanks in an atom that is asked.
func TestAtomsThatAsk(t *testing.T) {
	const s = " s(X, Y, Z) :- e(X, Y, Z)."
	const e = "e(1, 1, 1). e(1, 1, 2). e(1, 2, 2). e(2, 2, 2). e(1, 2, 1)."
	wantSolve(t, "p(X) :- s(X, X, X)."+s, e, "p(X)?", "p(1). p(2).", "p(V0): p(1). p(2).", "s(V0, V1, V2): s(1, 1, 1). s(1, 1, 2). s(1, 2, 1). s(1, 2, 2). s(2, 2, 2).")
	wantSolve(t, "p(X) :- s(X, X, 2)."+s, e, "p(X)?", "p(1). p(2).", "p(V0): p(1). p(2).", "s(V0, V1, 2): s(1, 1, 2). s(1, 2, 2). s(2, 2, 2).")
	wantSolve(t, "p(X) :- s(X, Y, Y)."+s, e, "p(1)?", "p(1).", "p(1): p(1).", "s(1, V0, V1): s(1, 1, 1). s(1, 1, 2). s(1, 2, 1). s(1, 2, 2).")
	wantSolve(t, "p(X) :- s(_, X, _)."+s, e, "p(X)?", "p(1). p(2).", "p(V0): p(1). p(2).", "s(V0, V1, V2): s(1, 1, 1). s(1, 1, 2). s(1, 2, 1). s(1, 2, 2). s(2, 2, 2).")
	wantSolve(t, "p(X) :- s(_, X, _), s(X, _, 1)."+s, e, "p(X)?", "p(1).", "p(V0): p(1).",
		"s(1, V0, 1): s(1, 1, 1). s(1, 2, 1).", "s(2, V0, 1):", "s(V0, V1, V2): s(1, 1, 1). s(1, 1, 2). s(1, 2, 1). s(1, 2, 2). s(2, 2, 2).")
	wantSolve(t, "p(X) :- e(X, X, _), not e(X, _, 1), s(X, 2, X)."+s, e, "p(X)?", "p(2).", "p(V0): p(2).", "s(2, 2, 2): s(2, 2, 2).")
	wantSolve(t, "p :- s(3, _, _). p :- s(_, _, X), s(X, X, X)."+s, e, "p?", "p.", "p: p.",
		"s(1, 1, 1): s(1, 1, 1).", "s(2, 2, 2): s(2, 2, 2).", "s(3, V0, V1):", "s(V0, V1, V2): s(1, 1, 1). s(1, 1, 2). s(1, 2, 1). s(1, 2, 2). s(2, 2, 2).")
}

// P22.3: goals that ask one another, and themselves.
func TestCycles(t *testing.T) {
	wantSolve(t, "p(X) :- r(X). r(X) :- p(X). r(X) :- e(X).", "e(1).", "p(X)?", "p(1).", "p(V0): p(1).", "r(V0): r(1).")
	wantSolve(t, "p(X) :- p(X).", "", "p(1)?", "", "p(1):")
	wantSolve(t, "p :- p, p. p :- r. r :- p.", "", "p?", "", "p:", "r:")
	wantSolve(t, "even(X) :- zero(X). even(X) :- next(Y, X), odd(Y). odd(X) :- next(Y, X), even(Y).", "zero(0). next(0, 1). next(1, 2). next(2, 3). next(3, 0).", "odd(3)?", "odd(3).",
		"even(0): even(0).", "even(2): even(2).", "odd(1): odd(1).", "odd(3): odd(3).")
	wantSolve(t, "same(X, Y) :- up(X, U), same(U, W), down(W, Y), U != Y. same(X, X) :- person(X).",
		"up(ann, bob). up(cy, bob). down(bob, ann). down(bob, cy). person(bob). person(ann). up(bob, ann).", "same(ann, Y)?", "same(ann, ann). same(ann, cy).",
		"same(ann, V0): same(ann, ann). same(ann, cy).", "same(bob, V0): same(bob, bob).")
}

// link answers par(i, i + 1) from one number to another.
func link(from, to int64) []api.Fact {
	var out []api.Fact
	for i := from; i < to; i++ {
		out = append(out, fact("par", i, i+1))
	}
	return out
}

// P22.3: chains of very many goals and of very many predicates, of which a part alone is asked.
func TestManyGoals(t *testing.T) {
	const most = 30000
	l := link(0, most)
	answers, tables := mustSolve(t, rulesOf(t, ancestors), l, atom("anc", n(most-40), v("X")))
	if len(answers) != 40 || len(tables) != 41 {
		t.Errorf("%d answers, %d tables", len(answers), len(tables))
	}
	answers, tables = mustSolve(t, rulesOf(t, ancestors), l, atom("anc", n(0), n(most)))
	if len(answers) != 1 || len(tables) != most+1 || len(tables[most].Answers) != 0 || tables[most-1].Answers[0][0] != num(most-1) {
		t.Errorf("%d answers, %d tables", len(answers), len(tables))
	}
	name := func(i int) string { return "p" + strconv.Itoa(i) }
	var rules []api.Rule
	for i := range most {
		rules = append(rules, api.Rule{Pred: name(i), Head: head(v("X")), Body: []api.Literal{pos("par", v("X"), v("Y")), pos(name(i+1), v("Y"))}})
	}
	answers, tables = mustSolve(t, rules, append(l, fact(name(most), most)), atom("p0", n(0)))
	if len(answers) != 1 || len(tables) != most {
		t.Errorf("%v, %d tables", answers, len(tables))
	}
}

// P22.3: each goal hears of each answer, whoever comes first.
func TestManyAnswers(t *testing.T) {
	const most = 300
	l := append(link(0, most), fact("par", most, 0))
	answers, tables := mustSolve(t, rulesOf(t, ancestors), l, atom("anc", n(0), v("X")))
	if len(answers) != most+1 || len(tables) != most+1 || len(tables[most].Answers) != most+1 {
		t.Errorf("right: %d answers, %d tables", len(answers), len(tables))
	}
	answers, tables = mustSolve(t, rulesOf(t, "anc(X, Y) :- anc(X, Z), par(Z, Y). anc(X, Y) :- par(X, Y)."), append(link(0, 100*most), link(0, 1)...), atom("anc", n(0), v("X")))
	if len(answers) != 100*most || len(tables) != 1 {
		t.Errorf("left: %d answers, %d tables", len(answers), len(tables))
	}
	answers, tables = mustSolve(t, rulesOf(t, "anc(X, Y) :- anc(X, Z), anc(Z, Y). anc(X, Y) :- par(X, Y)."), append(link(0, 60), fact("par", 60, 0)), atom("anc", v("X"), v("Y")))
	if len(answers) != 61*61 || len(tables) != 62 {
		t.Errorf("both: %d answers, %d tables", len(answers), len(tables))
	}
}

// P22.3: a long body has very many ways to hold; but what it comes to behind a literal hangs on few variables.
func TestLongBodies(t *testing.T) {
	all := many(api.MaxBody + 1)
	var l []api.Fact
	for i := range int64(12) {
		for j := range int64(12) {
			l = append(l, fact("e", i, j))
		}
	}
	for _, pred := range []string{"e", "s"} {
		for _, loose := range []bool{false, true} {
			r := api.Rule{Pred: "p", Head: head(all[0], all[api.MaxBody])}
			for i := range api.MaxBody {
				r.Body = append(r.Body, pos(pred, all[i], all[i+1]))
				if loose && i > 0 && i < api.MaxBody-1 {
					r.Body[i] = pos(pred, v("_"), v("_"))
				}
			}
			answers, tables := mustSolve(t, append(rulesOf(t, "s(X, Y) :- e(X, Y)."), r), l, atom("p", n(3), v("Y")))
			goals := 1
			if pred == "s" {
				goals = 13
			}
			if pred == "s" && loose {
				goals = 3 // that of p, s(3, V0), s(V0, V1)
			}
			if len(answers) != 12 || len(tables) != goals {
				t.Errorf("of %s: %d answers, %d tables; want 12, %d", pred, len(answers), len(tables), goals)
			}
		}
	}
}

// P22.2: as many columns and variables as may be.
func TestWide(t *testing.T) {
	all := many(api.MaxWide)
	turned := append([]api.Term{all[api.MaxWide-1]}, all[:api.MaxWide-1]...)
	rules := []api.Rule{{Pred: "p", Head: head(all...), Body: []api.Literal{pos("p", turned...)}}}
	var given api.Fact
	given.Pred = "p"
	for i := range api.MaxWide {
		given.Args = append(given.Args, num(int64(i%12)))
	}
	q := atom("p", many(api.MaxWide)...)
	q.Args[0] = n(1)
	answers, tables := mustSolve(t, rules, []api.Fact{given}, q)
	if len(answers) != 1 || len(answers[0]) != api.MaxWide || answers[0][0] != num(1) || answers[0][23] != num(0) || len(tables) != api.MaxWide {
		t.Fatalf("%v, %d tables", answers, len(tables))
	}
	for i, x := range tables {
		if x.Goal.Args[i] != n(1) || len(x.Answers) != 1 || len(x.Goal.Args) != api.MaxWide || x.Goal.Args[23-i/23].Var != "V22" {
			t.Errorf("%d: %s", i, showTables(tables[i:i+1]))
		}
	}
	q.Args = nil
	for i := range api.MaxWide {
		q.Args = append(q.Args, n(int64((i+7)%12)))
	}
	if answers, tables := mustSolve(t, rules, []api.Fact{given}, q); len(answers) != 1 || len(tables) != 12 {
		t.Errorf("%v, %d tables", answers, len(tables))
	}
}

// P22.2: unlike values are unlike wherever they stand, also where they look the same behind one another.
func TestUnlikeValues(t *testing.T) {
	all := []api.Value{num(1), num(11), num(-1), num(0), num(-1 << 63), num(1<<63 - 1)}
	for _, s := range []string{"", "1", "11", "n1", "t", "tt", "at", "a", "tb", "b", "\x01", "\x01a", "t\x01a", "\x00", "n", "-1", strings.Repeat("a", 199), strings.Repeat("a", 200)} {
		all = append(all, text(s))
	}
	var l []api.Fact
	for _, a := range all {
		for _, b := range all {
			l = append(l, api.Fact{Pred: "e", Args: []api.Value{a, b}})
		}
	}
	rules := rulesOf(t, "p(X, Y) :- e(X, Y). r(X) :- e(X, _), p(X, _), not e(X, X). s(X, Y) :- e(X, Y), p(X, Y).")
	if answers, tables := mustSolve(t, rules, l, atom("p", v("X"), v("Y"))); len(answers) != len(l) || len(tables) != 1 {
		t.Errorf("%d answers, %d tables", len(answers), len(tables))
	}
	if answers, tables := mustSolve(t, rules, l, atom("s", v("X"), v("Y"))); len(answers) != len(l) || len(tables) != len(l)+1 {
		t.Errorf("%d answers, %d tables", len(answers), len(tables))
	}
	if answers, tables := mustSolve(t, rules, l, atom("r", v("X"))); len(answers) != 0 || len(tables) != 1 {
		t.Errorf("%d answers, %d tables", len(answers), len(tables))
	}
	for _, a := range all {
		q := atom("s", api.Term{Val: a}, v("Y"))
		if answers, tables := mustSolve(t, rules, l, q); len(answers) != len(all) || len(tables) != len(all)+1 || answers[0][0] != a {
			t.Errorf("of %v: %d answers, %d tables", a, len(answers), len(tables))
		}
	}
}
