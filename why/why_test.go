package why_test

import (
	"fmt"
	"slices"
	"strconv"
	"strings"
	"testing"

	"pedigree/api"
	"pedigree/parse"
	"pedigree/print"
	"pedigree/value"
	"pedigree/why"
)

const (
	family = "anc(X, Y) :- par(X, Y). anc(X, Z) :- par(X, Y), anc(Y, Z). root(X) :- par(X, _), not anc(_, X). n(count()) :- root(X). big(N) :- n(N), N > 0."
	three  = "par(a, b). par(b, c). par(a, c)."
)

func num(n int64) api.Value { return api.Value{Kind: api.KNum, Num: n} }

func text(s string) api.Value { return api.Value{Kind: api.KText, Text: s} }

func v(name string) api.Term { return api.Term{Var: name} }

func ex(t api.Term) api.Expr { return api.Expr{Term: t} }

func op(o api.Op, kids ...api.Expr) api.Expr { return api.Expr{Op: o, Kids: kids} }

func atom(pred string, l ...api.Term) api.Atom { return api.Atom{Pred: pred, Args: l} }

func pos(pred string, l ...api.Term) api.Literal {
	return api.Literal{Kind: api.LPos, Atom: atom(pred, l...)}
}

func not(pred string, l ...api.Term) api.Literal {
	return api.Literal{Kind: api.LNot, Atom: atom(pred, l...)}
}

func cmp(left api.Expr, rel api.Rel, right api.Expr) api.Literal {
	return api.Literal{Kind: api.LCmp, Rel: rel, Left: left, Right: right}
}

func head(l ...api.Term) []api.Arg {
	var out []api.Arg
	for _, t := range l {
		out = append(out, api.Arg{Term: t})
	}
	return out
}

func fact(pred string, l ...api.Value) api.Fact { return api.Fact{Pred: pred, Args: l} }

func bind(name string, x api.Value) api.Bind { return api.Bind{Var: name, Val: x} }

func given(f api.Fact) api.Proof { return api.Proof{Kind: api.ProofGiven, Fact: f} }

func programOf(t *testing.T, source string) api.Program {
	t.Helper()
	p, fault := parse.Program(source)
	if (fault != api.Fault{}) {
		t.Fatalf("%s: %v", source, fault)
	}
	return p
}

func factsOf(t *testing.T, source string) []api.Fact {
	t.Helper()
	l, fault := parse.Facts(source)
	if (fault != api.Fault{}) {
		t.Fatalf("%s: %v", source, fault)
	}
	return l
}

func factOf(t *testing.T, source string) api.Fact {
	t.Helper()
	return factsOf(t, source)[0]
}

// brief cuts a text for a message, which has no room for very long ones.
func brief(s string) string {
	if len(s) > 1500 {
		return s[:1500] + " .."
	}
	return s
}

// show writes facts in one line; those that are none as they may be as Go has them.
func show(l ...api.Fact) string {
	s, err := print.Facts(l)
	if err != api.OK {
		return fmt.Sprint(l)
	}
	return strings.TrimSpace(strings.ReplaceAll(s, "\n", " "))
}

func showProgram(p api.Program) string {
	s, err := print.Program(p)
	if err != api.OK {
		return fmt.Sprint(p)
	}
	return strings.TrimSpace(strings.ReplaceAll(s, "\n", " "))
}

// showProof writes a proof, whatever it is, by Go's own means.
func showProof(x api.Proof) string {
	out := fmt.Sprintf("{%d %s %d %v", x.Kind, show(x.Fact), x.Rule, x.Binds)
	for _, kid := range x.Kids {
		out += " " + showProof(kid)
	}
	return out + "}"
}

func called(p api.Program, l []api.Fact, f api.Fact) string {
	return "Why(" + brief(showProgram(p)) + ", " + brief(show(l...)) + ", " + show(f) + ")"
}

func mustWhy(t *testing.T, p api.Program, l []api.Fact, f api.Fact) api.Proof {
	t.Helper()
	x, err := why.Why(p, l, f)
	if err != api.OK {
		t.Fatalf("%s: %d", called(p, l, f), err)
	}
	return x
}

// wantCode: the error of Why, beside which nothing else is told.
func wantCode(t *testing.T, p api.Program, l []api.Fact, f api.Fact, code api.Errno) {
	t.Helper()
	x, err := why.Why(p, l, f)
	if err != code {
		t.Errorf("%s: %d; want %d", called(p, l, f), err, code)
	}
	if err != api.OK && !isSame(x, api.Proof{}) {
		t.Errorf("%s tells beside %d: %s", called(p, l, f), err, brief(showProof(x)))
	}
}

func wantCheck(t *testing.T, p api.Program, l []api.Fact, x api.Proof, want bool) {
	t.Helper()
	if got := why.Check(p, l, x); got != want {
		t.Errorf("Check(%s, %s, %s): %v", brief(showProgram(p)), brief(show(l...)), brief(showProof(x)), got)
	}
}

// isSame: are two proofs the same in all fields? Empty lists and nil are.
func isSame(a, b api.Proof) bool {
	return a.Kind == b.Kind && value.CompareFacts(a.Fact, b.Fact) == 0 && a.Rule == b.Rule && slices.Equal(a.Binds, b.Binds) && slices.EqualFunc(a.Kids, b.Kids, isSame)
}

// wantLines: the proof that is told has these lines and this height, uses these facts, and is checked.
func wantLines(t *testing.T, rules, facts, asked string, height int, uses string, lines ...string) {
	t.Helper()
	p, l := programOf(t, rules), factsOf(t, facts)
	x := mustWhy(t, p, l, factOf(t, asked))
	got, err := why.Lines(x)
	if err != api.OK || strings.Join(got, "\n") != strings.Join(lines, "\n") {
		t.Errorf("%s, %s, %s: %d\n%s\nwant\n%s", rules, facts, asked, err, strings.Join(got, "\n"), strings.Join(lines, "\n"))
	}
	if h := why.Height(x); h != height {
		t.Errorf("%s, %s, %s: of height %d; want %d", rules, facts, asked, h, height)
	}
	if s := show(why.Uses(x)...); s != uses {
		t.Errorf("%s, %s, %s: uses %s; want %s", rules, facts, asked, s, uses)
	}
	wantCheck(t, p, l, x, true)
}

// The chapter's examples of Why, Lines, Height and Uses.
func TestExamples(t *testing.T) {
	wantLines(t, family, three, "anc(a, c).", 2, "par(a, c).",
		"anc(a, c) by rule 0 with X = a, Y = c", "  par(a, c) is given")
	wantLines(t, family, three, "big(1).", 4, "par(a, b).",
		"big(1) by rule 4 with N = 1", "  n(1) by rule 3", "    root(a) by rule 2 with X = a", "      par(a, b) is given", "      not anc(_, a)", "  true")
	wantLines(t, family, three, "par(a, b).", 1, "par(a, b).", "par(a, b) is given")
	wantLines(t, family, "par(a, b). par(b, c).", "anc(a, c).", 3, "par(a, b). par(b, c).",
		"anc(a, c) by rule 1 with X = a, Y = b, Z = c", "  par(a, b) is given", "  anc(b, c) by rule 0 with X = b, Y = c", "    par(b, c) is given")
	wantLines(t, "p(1). q(X) :- p(X), p(_).", "", "p(1).", 1, "", "p(1) by rule 0")
	wantLines(t, "p(1). q(X) :- p(X), p(_).", "", "q(1).", 2, "", "q(1) by rule 1 with X = 1", "  p(1) by rule 0", "  p(1) by rule 0")
	p, l := programOf(t, family), factsOf(t, three)
	wantCode(t, p, l, factOf(t, "anc(b, a)."), api.ErrNoProof)
	wantCode(t, p, l, factOf(t, "anc(a)."), api.ErrNoProof)
	if l, err := why.Lines(api.Proof{}); why.Height(api.Proof{}) != 1 || len(why.Uses(api.Proof{})) != 0 || err != api.ErrArg || len(l) != 0 {
		t.Errorf("of the zero Proof: %d, %v, %v, %d", why.Height(api.Proof{}), why.Uses(api.Proof{}), l, err)
	}
}

// The chapter's examples of Check.
func TestExamplesOfCheck(t *testing.T) {
	p, l := programOf(t, family), factsOf(t, three)
	x := mustWhy(t, p, l, factOf(t, "anc(a, c)."))
	wantCheck(t, p, l, x, true)
	other, fewer, bound := x, x, x
	other.Rule = 1
	fewer.Kids = nil
	bound.Binds = []api.Bind{bind("X", text("b")), x.Binds[1]}
	for _, y := range []api.Proof{other, fewer, bound, {Kind: api.ProofAbsent, Fact: factOf(t, "anc(c, a).")}} {
		wantCheck(t, p, l, y, false)
	}
	higher := mustWhy(t, p, factsOf(t, "par(a, b). par(b, c)."), factOf(t, "anc(a, c)."))
	wantCheck(t, p, l, higher, true)
	if why.Height(higher) != 3 || higher.Rule != 1 {
		t.Errorf("the higher proof: %s", showProof(higher))
	}
}

// P23.2: a given fact is told as given, whatever rules give it.
func TestGiven(t *testing.T) {
	wantLines(t, "p(1). p(X) :- e(X).", "p(1). e(1).", "p(1).", 1, "p(1).", "p(1) is given")
	wantLines(t, "p(1). p(X) :- e(X).", "e(1). p(2). e(2).", "p(2).", 1, "p(2).", "p(2) is given")
	wantLines(t, "n(count()) :- e(X).", "e(1). n(1).", "n(1).", 1, "n(1).", "n(1) is given")
	wantLines(t, "", "a. b. a.", "a.", 1, "a.", "a is given")
	wantLines(t, "q_p(X) :- q_e(X).", "q_e(1).", "q_p(1).", 2, "q_e(1).", "q_p(1) by rule 0 with X = 1", "  q_e(1) is given")
}

// P23.2: of the rules, and of a rule's solutions, the first that reaches the fact at its height.
func TestFirstWay(t *testing.T) {
	wantLines(t, "p(X) :- e(X, Y). p(X) :- f(X).", "e(1, 3). e(1, 2). f(1).", "p(1).", 2, "e(1, 2).",
		"p(1) by rule 0 with X = 1, Y = 2", "  e(1, 2) is given")
	wantLines(t, "p(X) :- e(Y, X). p(X) :- f(X).", "e(b, 1). e(7, 1). f(1).", "p(1).", 2, "e(7, 1).",
		"p(1) by rule 0 with Y = 7, X = 1", "  e(7, 1) is given")
	// the order is that of the body's variables, not of the head's or of their names
	wantLines(t, "p :- e(Z, A).", "e(2, 1). e(1, 2).", "p.", 2, "e(1, 2).", "p by rule 0 with Z = 1, A = 2", "  e(1, 2) is given")
	// a rule ahead that is higher is passed over, and so are solutions
	wantLines(t, "p(X) :- q(X). q(X) :- r(X). r(X) :- e(X). p(X) :- r(X). p(X) :- r(X), e(X).", "e(1).", "p(1).", 3, "e(1).",
		"p(1) by rule 3 with X = 1", "  r(1) by rule 2 with X = 1", "    e(1) is given")
	wantLines(t, "p(X) :- q(X, Y). q(X, 1) :- q(X, 2). q(X, 2) :- e(X). q(X, 3) :- e(X).", "e(0).", "p(0).", 3, "e(0).",
		"p(0) by rule 0 with X = 0, Y = 2", "  q(0, 2) by rule 2 with X = 0", "    e(0) is given")
	// a rule with a body never reaches as low as one without
	wantLines(t, "p :- 1 = 1. p.", "", "p.", 1, "", "p by rule 1")
	wantLines(t, "p :- e. p.", "e.", "p.", 1, "", "p by rule 1")
	wantLines(t, "p :- not e. p.", "", "p.", 1, "", "p by rule 1")
	// the same rule twice
	wantLines(t, "p(X) :- e(X). p(X) :- e(X). q :- p(X).", "e(1).", "q.", 3, "e(1).", "q by rule 2 with X = 1", "  p(1) by rule 0 with X = 1", "    e(1) is given")
	// a cycle proves nothing
	wantLines(t, "p(X) :- q(X). q(X) :- p(X). q(X) :- r(X). r(X) :- e(X).", "e(1).", "p(1).", 4, "e(1).",
		"p(1) by rule 0 with X = 1", "  q(1) by rule 2 with X = 1", "    r(1) by rule 3 with X = 1", "      e(1) is given")
	wantLines(t, "t(X, Z) :- t(X, Y), t(Y, Z). t(X, Y) :- e(X, Y).", "e(1, 2). e(2, 1).", "t(1, 1).", 3, "e(1, 2). e(2, 1).",
		"t(1, 1) by rule 0 with X = 1, Y = 2, Z = 1", "  t(1, 2) by rule 1 with X = 1, Y = 2", "    e(1, 2) is given", "  t(2, 1) by rule 1 with X = 2, Y = 1", "    e(2, 1) is given")
}

// P23.2: the kid for an atom is the first fact that is lower than what it is for, be it the lowest or not.
func TestFirstKid(t *testing.T) {
	// of height 3, as w(2) is needed for x: c(1), of height 2, comes ahead of c(2), which is given
	wantLines(t, "p :- x, c(_). x :- w(2). c(1) :- w(2). w(2).", "c(2).", "p.", 3, "",
		"p by rule 0", "  x by rule 1", "    w(2) by rule 3", "  c(1) by rule 2", "    w(2) by rule 3")
	// without x nothing but c(2) will do
	wantLines(t, "p :- c(_). c(1) :- w(2). w(2).", "c(2).", "p.", 2, "c(2).", "p by rule 0", "  c(2) is given")
	// what is as high as the fact itself is none either
	wantLines(t, "p :- c(_). c(1) :- p. c(2) :- e. c(3) :- e.", "e.", "p.", 3, "e.", "p by rule 0", "  c(2) by rule 2", "    e is given")
	// several blanks, values and variables between them
	wantLines(t, "p(X) :- e(_, X, _, 7).", "e(2, b, 1, 7). e(1, b, 9, 7). e(1, b, 8, 6). e(1, a, 0, 7).", "p(b).", 2, "e(1, b, 9, 7).",
		"p(b) by rule 0 with X = b", "  e(1, b, 9, 7) is given")
	// a variable twice
	wantLines(t, "p(X) :- e(X, _, X).", "e(1, 1, 2). e(1, 2, 1). e(1, 3, 1). e(2, 0, 2).", "p(1).", 2, "e(1, 2, 1).",
		"p(1) by rule 0 with X = 1", "  e(1, 2, 1) is given")
	wantLines(t, "p :- e(_, _).", "e(3, 1). e(2, b).", "p.", 2, "e(2, b).", "p by rule 0", "  e(2, b) is given")
}

// P23.2: nots, comparisons and made values.
func TestLeaves(t *testing.T) {
	wantLines(t, "p :- not q.", "", "p.", 2, "", "p by rule 0", "  not q")
	wantLines(t, "p :- 1 < 2, not q(_, 5, _), not q(a, _, _).", "q(b, 6, 1).", "p.", 2, "", "p by rule 0", "  true", "  not q(_, 5, _)", "  not q(a, _, _)")
	wantLines(t, "next(Y) :- n(X), Y = X + 1, not n(Y).", "n(1). n(2).", "next(3).", 2, "n(2).",
		"next(3) by rule 0 with X = 2, Y = 3", "  n(2) is given", "  true", "  not n(3)")
	wantLines(t, "two(X) :- X = 2.", "", "two(2).", 2, "", "two(2) by rule 0 with X = 2", "  true")
	wantLines(t, `w(Y) :- e(X), Y = X & "!".`, `e("a b"). e("\x00\xff").`, `w("\x00\xff!").`, 2, `e("\x00\xff").`,
		`w("\x00\xff!") by rule 0 with X = "\x00\xff", Y = "\x00\xff!"`, `  e("\x00\xff") is given`, "  true")
}

// P23.2: a group's kids are those of all its solutions, in order.
func TestGroups(t *testing.T) {
	const pay = "pay(a, 3, 1). pay(a, 3, 2). pay(a, 5, 1). pay(b, 7, 9). pay(c, x, 1)."
	wantLines(t, "n(P, count()) :- pay(P, S, _).", pay, "n(a, 2).", 2, "pay(a, 3, 1). pay(a, 5, 1).",
		"n(a, 2) by rule 0 with P = a", "  pay(a, 3, 1) is given", "  pay(a, 5, 1) is given")
	wantLines(t, "t(sum(S), P, max(M), P, 8, count()) :- pay(P, S, M), not no(S).", pay, "t(11, a, 2, a, 8, 3).", 2, "pay(a, 3, 1). pay(a, 3, 2). pay(a, 5, 1).",
		"t(11, a, 2, a, 8, 3) by rule 0 with P = a", "  pay(a, 3, 1) is given", "  not no(3)", "  pay(a, 3, 2) is given", "  not no(3)", "  pay(a, 5, 1) is given", "  not no(5)")
	wantLines(t, "m(min(S), max(S)) :- pay(_, S, _).", pay, "m(3, x).", 2, "pay(a, 3, 1). pay(a, 5, 1). pay(b, 7, 9). pay(c, x, 1).",
		"m(3, x) by rule 0", "  pay(a, 3, 1) is given", "  pay(a, 5, 1) is given", "  pay(b, 7, 9) is given", "  pay(c, x, 1) is given")
	// the plain variables in the head's order, each once
	wantLines(t, "n(M, P, count(), M) :- pay(P, S, M).", pay, "n(1, a, 2, 1).", 2, "pay(a, 3, 1). pay(a, 5, 1).",
		"n(1, a, 2, 1) by rule 0 with M = 1, P = a", "  pay(a, 3, 1) is given", "  pay(a, 5, 1) is given")
	wantLines(t, "k(5, count()).", "", "k(5, 1).", 1, "", "k(5, 1) by rule 0")
	wantLines(t, "k(count()) :- 1 = 1, not e.", "", "k(1).", 2, "", "k(1) by rule 0", "  true", "  not e")
	// two rules, and a group as high as its highest kid
	wantLines(t, "n(count()) :- q(X). n(X) :- r(X). q(X) :- e(X). q(X) :- s(X). s(X) :- e(X). s(3). r(X) :- s(X), X = 3. e(0) :- e(0).", "e(1). e(2).", "n(3).", 3, "e(1). e(2).",
		"n(3) by rule 0", "  q(1) by rule 2 with X = 1", "    e(1) is given", "  q(2) by rule 2 with X = 2", "    e(2) is given", "  q(3) by rule 3 with X = 3", "    s(3) by rule 5")
	// a group whose sum is nothing gives nothing
	p, l := programOf(t, "t(P, sum(S)) :- pay(P, S, M)."), factsOf(t, pay)
	wantCode(t, p, l, factOf(t, "t(c, 0)."), api.ErrNoProof)
	wantCode(t, p, l, factOf(t, "t(a, 8)."), api.ErrNoProof)
	mustWhy(t, p, l, factOf(t, "t(a, 11)."))
}

// P23.2: unlike values are unlike facts, also if they look alike.
func TestUnlikeValues(t *testing.T) {
	const given = `e(1, "1"). e("1", 1). e("n1", ""). e("", "n1"). e(12, 3). e(1, 23). e("a, b", c). e(a, "b, c"). e("t", ""). e(a, tb). e(at, b). e(b, n1). e(bn1, x).`
	for _, f := range factsOf(t, given) {
		p, l := programOf(t, "p(Y, X) :- e(X, Y). q(count(), X, Y) :- p(X, Y). r(X) :- p(X, _)."), factsOf(t, given)
		x, y := f.Args[0], f.Args[1]
		got := mustWhy(t, p, l, fact("q", num(1), y, x))
		want := api.Proof{Kind: api.ProofRule, Fact: fact("q", num(1), y, x), Rule: 1, Binds: []api.Bind{bind("X", y), bind("Y", x)}, Kids: []api.Proof{
			{Kind: api.ProofRule, Fact: fact("p", y, x), Binds: []api.Bind{bind("X", x), bind("Y", y)}, Kids: []api.Proof{{Kind: api.ProofGiven, Fact: f}}}}}
		if !isSame(got, want) {
			t.Errorf("of %s: %s", show(f), showProof(got))
		}
		if z := mustWhy(t, p, l, fact("r", y)); z.Kids[0].Fact.Args[0] != y {
			t.Errorf("of r: %s", showProof(z))
		}
	}
}

// doubling are rules a1, a2 and so on, each with twice the parts of the one ahead and one more.
func doubling(n int) string {
	s := "a1."
	for i := 2; i <= n; i++ {
		a := "a" + strconv.Itoa(i-1)
		s += " a" + strconv.Itoa(i) + " :- " + a + ", " + a + "."
	}
	return s
}

// P23.1: so many parts as there may be, and one more.
func TestSize(t *testing.T) {
	p := programOf(t, doubling(40))
	wantCode(t, p, nil, fact("a16"), api.OK)
	wantCode(t, p, nil, fact("a17"), api.ErrSize)
	wantCode(t, p, nil, fact("a40"), api.ErrSize)
	var l []api.Fact
	for i := range api.MaxProof {
		l = append(l, fact("e", num(int64(i))))
	}
	count := programOf(t, "n(count()) :- e(X). not_any(count()) :- e(_). m(count()) :- e(X), X >= 32767. k(count()) :- e(X), X > 32768. k2(X) :- k(X). k3 :- k(_), 1 = 1, not f.")
	wantCode(t, count, l[1:], fact("n", num(65535)), api.OK)
	wantCode(t, count, l, fact("n", num(65536)), api.ErrSize)
	wantCode(t, count, l, fact("not_any", num(1)), api.OK)
	// each of so many solutions has two parts
	wantCode(t, count, l, fact("m", num(32769)), api.ErrSize)
	x := mustWhy(t, count, l, fact("k", num(32767)))
	if len(x.Kids) != 65534 || why.Height(x) != 2 || len(why.Uses(x)) != 32767 {
		t.Errorf("%d kids, of height %d, with %d facts", len(x.Kids), why.Height(x), len(why.Uses(x)))
	}
	wantCode(t, count, l, fact("k2", num(32767)), api.OK)
	wantCode(t, count, l, fact("k3"), api.ErrSize)
	if lines, err := why.Lines(x); err != api.OK || len(lines) != 65535 {
		t.Errorf("Lines: %d, %d", len(lines), err)
	}
	wantCheck(t, count, l, x, true)
	x.Kids[65533].Kind = api.ProofGiven
	wantCheck(t, count, l, x, false)
}

// P23.1: chains of facts, two parts for each step.
func TestLongChains(t *testing.T) {
	const rules = "p(0). p(Y) :- p(X), s(X, Y)."
	p := programOf(t, rules)
	var l []api.Fact
	for i := range int64(66000) {
		l = append(l, fact("s", num(i), num(i+1)))
	}
	// so high that nothing is gone into
	wantCode(t, p, l, fact("p", num(66000)), api.ErrSize)
	l = l[:33000]
	x := mustWhy(t, p, l, fact("p", num(32767)))
	if h := why.Height(x); h != 32768 || len(why.Uses(x)) != 32767 {
		t.Errorf("of height %d, with %d facts", h, len(why.Uses(x)))
	}
	wantCheck(t, p, l, x, true)
	wantCheck(t, p, l[1:], x, false)
	wantCode(t, p, l, fact("p", num(32768)), api.ErrSize)
	wantCode(t, p, l, fact("p", num(33001)), api.ErrNoProof)
}

// R1: Height, Uses and Check of what is nested as deep as it may be.
func TestDeep(t *testing.T) {
	x := given(factOf(t, "e(1)."))
	for range 65535 {
		x = api.Proof{Kind: api.ProofRule, Fact: factOf(t, "p(1)."), Binds: []api.Bind{bind("X", num(1))}, Kids: []api.Proof{x}}
	}
	if h, l := why.Height(x), why.Uses(x); h != 65536 || show(l...) != "e(1)." {
		t.Errorf("of height %d, with %s", h, show(l...))
	}
	p := programOf(t, "p(X) :- p(X). p(X) :- e(X).")
	wantCheck(t, p, factsOf(t, "e(1)."), x, false) // the last one is by rule 1
	at := &x
	for len(at.Kids[0].Kids) > 0 {
		at = &at.Kids[0]
	}
	at.Rule = 1
	wantCheck(t, p, factsOf(t, "e(1)."), x, true)
}

// P23.1: many rules, with which the fact has nothing to do or all.
func TestManyRules(t *testing.T) {
	s := "p0(X) :- e(X)."
	for i := 1; i < 400; i++ {
		s += fmt.Sprintf(" p%d(X) :- p%d(X), not q%d(X).", i, i-1, i)
	}
	p := programOf(t, s)
	x := mustWhy(t, p, factsOf(t, "e(1). e(2)."), factOf(t, "p399(2)."))
	if h := why.Height(x); h != 401 {
		t.Errorf("of height %d", h)
	}
	wantCode(t, p, factsOf(t, "e(1). e(2). q7(2)."), factOf(t, "p399(2)."), api.ErrNoProof)
	wantLines(t, s, "e(1). e(2). q7(2).", "p0(2).", 2, "e(2).", "p0(2) by rule 0 with X = 2", "  e(2) is given")
}

// R1: as many columns, variables and literals as there may be.
func TestWide(t *testing.T) {
	var args []api.Term
	var binds []api.Bind
	f := fact("e")
	for i := range api.MaxWide {
		args = append(args, v("X"+strconv.Itoa(i)))
		f.Args = append(f.Args, num(int64(i)))
		binds = append(binds, bind("X"+strconv.Itoa(i), num(int64(i))))
	}
	r := api.Rule{Pred: "p", Head: head(args...)}
	for range api.MaxBody {
		r.Body = append(r.Body, pos("e", args...))
	}
	p := api.Program{Rules: []api.Rule{r}}
	x := mustWhy(t, p, []api.Fact{f}, api.Fact{Pred: "p", Args: f.Args})
	want := api.Proof{Kind: api.ProofRule, Fact: api.Fact{Pred: "p", Args: f.Args}, Binds: binds, Kids: slices.Repeat([]api.Proof{given(f)}, api.MaxBody)}
	if !isSame(x, want) {
		t.Errorf("%s", showProof(x))
	}
	wantCheck(t, p, []api.Fact{f}, x, true)
	for i := range api.MaxWide {
		y := copyProof(x)
		y.Binds[i].Val.Num++
		wantCheck(t, p, []api.Fact{f}, y, false)
		y = copyProof(x)
		y.Kids[15].Fact.Args[i].Num++
		wantCheck(t, p, []api.Fact{f}, y, false)
	}
}
