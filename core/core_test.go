package core_test

import (
	"fmt"
	"slices"
	"strconv"
	"strings"
	"testing"

	"pedigree/api"
	"pedigree/core"
	"pedigree/parse"
	"pedigree/print"
)

func num(n int64) api.Value { return api.Value{Kind: api.KNum, Num: n} }

func text(s string) api.Value { return api.Value{Kind: api.KText, Text: s} }

func v(name string) api.Term { return api.Term{Var: name} }

func ex(t api.Term) api.Expr { return api.Expr{Term: t} }

func op(o api.Op, kids ...api.Expr) api.Expr { return api.Expr{Op: o, Kids: kids} }

func atom(pred string, l ...api.Term) api.Atom { return api.Atom{Pred: pred, Args: l} }

func pos(pred string, l ...api.Term) api.Literal {
	return api.Literal{Kind: api.LPos, Atom: atom(pred, l...)}
}

func cmp(left api.Expr, rel api.Rel, right api.Expr) api.Literal {
	return api.Literal{Kind: api.LCmp, Rel: rel, Left: left, Right: right}
}

func head(l ...api.Term) []api.Arg {
	var out []api.Arg
	for _, t := range l {
		out = append(out, api.Arg{Term: t})
	}
	return out
}

// many are n unlike variables.
func many(n int) []api.Term {
	var out []api.Term
	for i := range n {
		out = append(out, v("X"+strconv.Itoa(i)))
	}
	return out
}

func rulesOf(t *testing.T, source string) []api.Rule {
	t.Helper()
	p, fault := parse.Program(source)
	if (fault != api.Fault{}) {
		t.Fatalf("%s: %v", source, fault)
	}
	return p.Rules
}

func ruleOf(t *testing.T, source string) api.Rule {
	t.Helper()
	r, fault := parse.Rule(source)
	if (fault != api.Fault{}) {
		t.Fatalf("%s: %v", source, fault)
	}
	return r
}

// showRules writes rules as a source has them; those that are none as they may be as Go has them.
func showRules(l ...api.Rule) string {
	if s, err := print.Program(api.Program{Rules: l}); err == api.OK {
		return s
	}
	return fmt.Sprintf("%v", l)
}

func showFacts(l ...api.Fact) string {
	if s, err := print.Facts(l); err == api.OK {
		return strings.ReplaceAll(strings.TrimSpace(s), "\n", " ")
	}
	return fmt.Sprintf("%v", l)
}

// brief cuts a text for a message, which has no room for very long ones.
func brief(s string) string {
	if len(s) > 1200 {
		return s[:1200] + " .."
	}
	return s
}

// wantFrozen: the body's facts and the head's, of a source.
func wantFrozen(t *testing.T, source, body, head string) {
	t.Helper()
	l, f, err := core.Freeze(ruleOf(t, source))
	if err != api.OK || showFacts(l...) != body || showFacts(f) != head {
		t.Errorf("Freeze(%s): %s; %s, %d; want %s; %s", source, showFacts(l...), showFacts(f), err, body, head)
	}
}

// wantFollows: of sources.
func wantFollows(t *testing.T, rules, rule string, want bool) {
	t.Helper()
	if ok, err := core.Follows(rulesOf(t, rules), ruleOf(t, rule)); ok != want || err != api.OK {
		t.Errorf("Follows(%s, %s): %v, %d; want %v", brief(rules), brief(rule), ok, err, want)
	}
}

// wantSame: of sources, both ways round.
func wantSame(t *testing.T, a, b string, want bool) {
	t.Helper()
	for _, c := range [][2]string{{a, b}, {b, a}} {
		if ok, err := core.Same(rulesOf(t, c[0]), rulesOf(t, c[1])); ok != want || err != api.OK {
			t.Errorf("Same(%s, %s): %v, %d; want %v", brief(c[0]), brief(c[1]), ok, err, want)
		}
	}
}

// wantLeast: of sources.
func wantLeast(t *testing.T, rules, want string) {
	t.Helper()
	l, err := core.Least(rulesOf(t, rules))
	if err != api.OK || showRules(l...) != showRules(rulesOf(t, want)...) {
		t.Errorf("Least(%s), %d:\n%swant:\n%s", brief(rules), err, brief(showRules(l...)), brief(want))
	}
}

const (
	bothWays = "t(X, Y) :- e(X, Y). t(X, Z) :- t(X, Y), t(Y, Z)."
	oneStep  = "t(X, Y) :- e(X, Y). t(X, Z) :- e(X, Y), t(Y, Z)."
)

// The chapter's examples. (P21.1 to P21.4)
func TestExamples(t *testing.T) {
	wantFrozen(t, "t(X, Z) :- e(X, Y), t(Y, Z).", `e("#0", "#2"). t("#2", "#1").`, `t("#0", "#1").`)
	wantFrozen(t, `p(X, 3) :- e(X, _, "#0"), f(_, _).`, `e("#1", "#2", "#0"). f("#3", "#4").`, `p("#1", 3).`)
	wantFrozen(t, "p(1).", "", "p(1).")
	for _, source := range []string{"p(X) :- e(X), not f(X).", "p(X) :- e(X), X = 1.", "p(count()) :- e(_)."} {
		wantFreezeCode(t, ruleOf(t, source), api.ErrPlain)
	}
	wantFollows(t, bothWays, "t(X, Z) :- e(X, Y), t(Y, Z).", true)
	wantFollows(t, oneStep, "t(X, Z) :- t(X, Y), t(Y, Z).", false)
	wantSame(t, bothWays, oneStep, false)
	wantSame(t, bothWays, "t(X, Z) :- t(X, Y), t(Y, Z). t(X, Y) :- e(X, Y).", true)
	wantFollows(t, "", "p(X) :- q(X), p(X).", true)
	wantFollows(t, "", "p(X) :- p(Y), e(X, Y).", false)
	wantFollows(t, "p(X) :- e(X, _).", "p(X) :- e(X, X), e(X, 1).", true)
	wantFollows(t, `p("#0") :- e.`, "p(X) :- e, f(X).", false)
	wantLeast(t, "p(X) :- e(X, Y), e(X, Z).", "p(X) :- e(X, Y).")
	wantLeast(t, bothWays+" t(X, Z) :- e(X, Y), t(Y, Z).", bothWays)
	wantLeast(t, "a(X) :- c(X). c(X) :- b(X), a(X). a(X) :- b(X).", "a(X) :- c(X). c(X) :- b(X).")
	wantLeast(t, "p(X) :- p(X). p(X) :- e(X).", "p(X) :- e(X).")
	wantListCode(t, rulesOf(t, "p(X) :- e(X). p(X, Y) :- f(X, Y)."), api.ErrArity)
}

// P21.2: the head's variables first, then the body's, then the blanks; values as they are.
func TestFreeze(t *testing.T) {
	for _, c := range [][3]string{
		{"p.", "", "p."},
		{"p :- g, g.", "g. g.", "p."},
		{"p :- e(X), e(X).", `e("#0"). e("#0").`, "p."},
		{"p(a, -7, \"x y\").", "", `p(a, -7, "x y").`},
		{"p(Z, Y, Z) :- e(X, Y), e(Z, X).", `e("#2", "#1"). e("#0", "#2").`, `p("#0", "#1", "#0").`},
		{"p(B) :- e(_, A), f(_, B, A), e(_, C).", `e("#3", "#1"). f("#4", "#0", "#1"). e("#5", "#2").`, `p("#0").`},
		{"p :- e(_, _), e(_, _).", `e("#0", "#1"). e("#2", "#3").`, "p."},
		// the order is the body's, also where facts would stand in another
		{"p(X) :- f(X), e(X), f(1), d(2), f(X).", `f("#0"). e("#0"). f(1). d(2). f("#0").`, `p("#0").`},
		// texts that stand in the rule, in the head and the body, are passed by
		{`p(X, "#1") :- e(X, Y, "#0", _), f(_, "#3").`, `e("#2", "#4", "#0", "#5"). f("#6", "#3").`, `p("#2", "#1").`},
		{`p("#0", "#1", "#2") :- e(X).`, `e("#3").`, `p("#0", "#1", "#2").`},
		{`p("#1", X) :- e(X).`, `e("#0").`, `p("#1", "#0").`},
		// those that only look like them are not
		{`p(X) :- e(X, 0, "0", "#", "#00", "#0 ", "# 0", "#x", "#-1", "#+1").`, `e("#0", 0, "0", "#", "#00", "#0 ", "# 0", "#x", "#-1", "#+1").`, `p("#0").`},
		{`p(X, Y) :- e(X, Y, "#01").`, `e("#0", "#1", "#01").`, `p("#0", "#1").`},
	} {
		wantFrozen(t, c[0], c[1], c[2])
	}
}

// P21.2: as many variables, blanks and atoms as there can be; the number has digits enough.
func TestWideFreeze(t *testing.T) {
	r := api.Rule{Pred: "p", Head: head(many(24)...), Body: []api.Literal{pos("e", many(24)...)}}
	for range 15 {
		r.Body = append(r.Body, pos("w", slices.Repeat([]api.Term{v("_")}, 24)...))
	}
	l, f, err := core.Freeze(r)
	if err != api.OK || len(l) != 16 || f.Pred != "p" {
		t.Fatalf("Freeze: %d facts, %v, %d", len(l), f, err)
	}
	for i := range 16 * 24 {
		if want := text("#" + strconv.Itoa(i)); l[i/24].Args[i%24] != want || i < 24 && f.Args[i] != want {
			t.Errorf("the text %d is %v", i, l[i/24].Args[i%24])
		}
	}
}

// P21.3: what follows, and what only looks like it.
func TestFollows(t *testing.T) {
	for _, c := range []struct {
		rules, rule string
		want        bool
	}{
		// a fact that is said
		{"p(1).", "p(1).", true}, {"p(1).", "p(2).", false}, {"p(1).", "p(1) :- e.", true}, {"p(1) :- e.", "p(1).", false}, {"", "p(1).", false}, {"p(1).", "p(X) :- e(X).", false},
		{"", "p(1) :- p(1).", true}, {"", "p(1) :- p(2).", false}, {"p(X) :- p(_), e(X).", "p(X) :- p(Y), e(X), f(Y).", true},
		// the head stands in the body, but with other terms
		{"", "p(X, Y) :- p(Y, X).", false}, {"p(X, Y) :- p(Y, X).", "p(X, Y) :- p(X, Y).", true}, {"p(X, Y) :- p(Y, X).", "p(X, X) :- p(X, Y).", false}, {"", "p(X, 1) :- p(X, 1), e.", true}, {"", "p(X, 1) :- p(X, \"1\"), e.", false},
		// through other predicates, and several times
		{"a(X) :- b(X). b(X) :- c(X). c(X) :- d(X).", "a(X) :- d(X).", true}, {"a(X) :- b(X). b(X) :- c(X).", "a(X) :- d(X).", false}, {"a(X) :- b(X), c(X). c(X) :- b(X).", "a(X) :- b(X).", true},
		{oneStep, "t(X, Z) :- e(X, Y), e(Y, W), t(W, Z).", true}, {oneStep, "t(A, E) :- e(A, B), e(B, C), e(C, D), e(D, E).", true}, {oneStep, "t(A, E) :- e(A, B), e(C, B), e(C, D), e(D, E).", false}, {oneStep, "t(X, X) :- e(X, Y), e(Y, X).", true}, {oneStep, "t(X, Z) :- t(X, Y), e(Y, Z).", false},
		{bothWays, "t(X, Z) :- t(X, Y), e(Y, Z).", true}, {bothWays, "s(X, Z) :- t(X, Y), e(Y, Z).", false},
		// values
		{"p(X) :- e(X, 1).", "p(X) :- e(X, Y).", false}, {"p(X) :- e(X, Y).", "p(X) :- e(X, 1).", true}, {"p(X) :- e(X, 1).", "p(3) :- e(3, 1).", true}, {"p(3) :- e(3, 1).", "p(X) :- e(X, 1).", false}, {"p(X) :- e(X, 1).", "p(X) :- e(X, \"1\").", false}, {"p(a) :- e(X).", "p(X) :- e(X).", false},
		// blanks
		{"p(X) :- e(X, Y).", "p(X) :- e(X, _).", true}, {"p(X) :- e(X, _).", "p(X) :- e(X, Y).", true}, {"p(X) :- e(X, X).", "p(X) :- e(X, _).", false}, {"p(X) :- e(X, Y), f(Y).", "p(X) :- e(X, _), f(_).", false}, {"p :- e(X, X).", "p :- e(_, _).", false},
		// what stands under other names, or without any need
		{"p(X) :- e(X, Y), f(Y).", "p(B) :- f(A), g(C), e(B, A).", true}, {"p(X) :- e(X). z(X) :- y(X), z(X).", "p(X) :- e(X).", true}, {"a :- b. b :- a.", "a :- c.", false}, {"a :- b. b :- a.", "b :- a, c.", true}, {"p(X) :- p(X).", "p(X) :- e(X).", false},
	} {
		wantFollows(t, c.rules, c.rule, c.want)
	}
}

// P21.3: texts that stand in the rules alone, in their heads and bodies, are no frozen ones.
func TestTextsOfTheRules(t *testing.T) {
	for _, c := range [][2]string{
		{`p("#0") :- e.`, "p(X) :- e, f(X)."}, {`p(X) :- f(X, "#1").`, "p(X) :- f(X, Y)."}, {`p(X) :- f("#0", X).`, "p(X) :- f(_, X)."}, {`p(X) :- f("#1", X).`, "p(X) :- f(_, X)."},
		{`p(X) :- f(X, "#2"), g("#1").`, `p(X) :- f(X, Y), g(Z), h("#0").`},
	} {
		wantFollows(t, c[0], c[1], false)
		wantSame(t, c[0], c[0]+" "+c[1], false)
	}
	wantLeast(t, `p("#0") :- e. p(X) :- e, f(X).`, `p("#0") :- e. p(X) :- e, f(X).`)
	wantLeast(t, `p(X) :- f(X, Y). p(X) :- f(X, "#1").`, "p(X) :- f(X, Y).")
	wantLeast(t, `p(X) :- f(X, "#1"). p(X) :- f(X, Y).`, "p(X) :- f(X, Y).")
	wantLeast(t, `p(X) :- f(X, "#1"), f(X, Y).`, `p(X) :- f(X, "#1").`)
}

// P21.3: rules with reserved names, and names that a run may have taken for itself.
func TestReservedNames(t *testing.T) {
	const long = "p(X) :- e(X, A), e(A, B), f(B), g(A)."
	for i := range 6 {
		q := "q_" + strconv.Itoa(i)
		wantFollows(t, long, "p(X) :- e(X, A), "+q+"(X, B), "+q+"(X, A).", false)
		wantFollows(t, long, "p(X) :- "+q+"(X, A), e(X, B), e(B, C), f(C).", false)
		wantFollows(t, long, "p(X) :- "+q+", e(X, B), e(B, C), f(C), g(B).", true)
		wantFollows(t, long+" "+q+"(X) :- p(X).", q+"(X) :- e(X, A), e(A, B), f(B), g(A).", true)
		wantFollows(t, strings.ReplaceAll(long, "f(", q+"("), "p(X) :- e(X, A), e(A, B), f(B), g(A).", false)
		wantFollows(t, strings.ReplaceAll(long, "p(", q+"("), q+"(X) :- e(X, A), e(A, A), f(A), g(A).", true)
	}
}

// P21.3: Same looks both ways, and at all rules.
func TestSame(t *testing.T) {
	for _, c := range []struct {
		a, b string
		want bool
	}{
		{"", "", true}, {"", "p.", false}, {"", "p :- p.", true}, {"p(X) :- e(X).", "p(Y) :- e(Y), e(Y). p(Z) :- e(Z), f(Z).", true},
		{"p(X) :- e(X).", "p(X) :- e(X). p(X) :- f(X).", false}, {"p(X) :- e(X), f(X).", "p(X) :- e(X).", false}, {oneStep, "t(X, Y) :- e(X, Y). t(X, Z) :- t(X, Y), e(Y, Z).", false},
		{"a(X) :- b(X). b(X) :- c(X).", "a(X) :- b(X). b(X) :- c(X). a(X) :- c(X).", true}, {"a(X) :- b(X). b(X) :- c(X).", "a(X) :- c(X). b(X) :- c(X).", false},
		{"p(1). r(X) :- p(X).", "p(1). r(1).", false}, {"p(1). r(X) :- p(X).", "r(1). p(1). r(X) :- p(X), p(X).", true},
	} {
		wantSame(t, c.a, c.b, c.want)
	}
}

// P21.4: the order in which things go, passes, and what stays.
func TestLeast(t *testing.T) {
	for _, c := range [][2]string{
		{"", ""}, {"p.", "p."}, {"p :- p.", ""}, {"p :- p. p :- p, p.", ""}, {"p(1). p(2). p(1).", "p(1). p(2)."},
		// of two that are alike the last goes, of two literals too
		{"p(X) :- e(X). p(Y) :- e(Y).", "p(X) :- e(X)."}, {"p(X) :- e(X, Y), e(X, Z), e(X, _).", "p(X) :- e(X, Y)."}, {"p(X) :- e(X, _), e(X, Z).", "p(X) :- e(X, _)."},
		{"p :- e(X), e(Y), f(Y).", "p :- e(Y), f(Y)."}, {"p :- f(Y), e(Y), e(X).", "p :- f(Y), e(Y)."}, {"p(X) :- e(X), e(Y), f(Y).", "p(X) :- e(X), e(Y), f(Y)."},
		// a rule goes ahead of its literals, and the order stays
		{"p(X) :- e(X), f(X). p(X) :- e(X). r(X) :- f(X).", "p(X) :- e(X). r(X) :- f(X)."}, {"r(X) :- f(X), f(X). p(X) :- e(X). p(X) :- e(X), f(X). a :- g.", "r(X) :- f(X). p(X) :- e(X). a :- g."},
		// literals that other rules make needless
		{"c(X) :- b(X), a(X). a(X) :- b(X).", "c(X) :- b(X). a(X) :- b(X)."}, {"a(X) :- b(X). c(X) :- a(X), b(X).", "a(X) :- b(X). c(X) :- b(X)."}, {"r(X) :- p(X), e(X). p(1). r(1) :- e(1).", "r(X) :- p(X), e(X). p(1)."},
		{"a(1). b(X) :- e(X), a(1).", "a(1). b(X) :- e(X)."}, {"b(X) :- a(_), e(X). a(1). a(2).", "b(X) :- e(X). a(1). a(2)."},
		// a literal that its own rule makes needless
		{"t(X, Y) :- e(X, Y). t(X, Z) :- t(X, Y), e(Y, Z), e(_, Z).", "t(X, Y) :- e(X, Y). t(X, Z) :- t(X, Y), e(Y, Z)."}, {"p(X) :- e(X), p(Y). p(X) :- e(X).", "p(X) :- e(X)."}, {"p(X) :- e(X, Y), p(Y). p(X) :- e(X, _).", "p(X) :- e(X, _)."},
		// what its head needs stays
		{"p(X, Y) :- e(X), e(Y).", "p(X, Y) :- e(X), e(Y)."}, {"p(X) :- e(X), e(X).", "p(X) :- e(X)."}, {"p(X) :- e(X, X), e(X, Y), e(Y, X).", "p(X) :- e(X, X)."}, {"p(X) :- e(X, Y), e(Y, X).", "p(X) :- e(X, Y), e(Y, X)."},
		// the second pass, and a third
		{"a(X) :- b(X). d(X) :- b(X), a(X), c(X). c(X) :- d(X). c(X) :- b(X).", "a(X) :- b(X). d(X) :- b(X). c(X) :- d(X)."},
		// rings: the last that can go goes
		{"a :- b. b :- c. c :- a. a :- c. b :- a. c :- b.", "a :- b. b :- c. c :- a."}, {"a :- c. b :- a. c :- b. a :- b. b :- c. c :- a.", "a :- c. b :- a. c :- b."},
		{oneStep + " " + bothWays, "t(X, Y) :- e(X, Y). t(X, Z) :- t(X, Y), t(Y, Z)."}, {"t(X, Z) :- e(X, Y), t(Y, Z). t(X, Y) :- e(X, Y). t(X, Z) :- t(X, Y), t(Y, Z).", "t(X, Y) :- e(X, Y). t(X, Z) :- t(X, Y), t(Y, Z)."},
	} {
		wantLeast(t, c[0], c[1])
	}
}

// joined are atoms of one text, in each of which @ stands for its number and + for the next one.
func joined(n int, one string) string {
	var l []string
	for i := range n {
		l = append(l, strings.NewReplacer("@", strconv.Itoa(i), "+", strconv.Itoa(i+1)).Replace(one))
	}
	return strings.Join(l, ", ")
}

// R1, P21.3, P21.4: bodies and heads that have more joins, and give more, than can ever be tried.
func TestLongBodies(t *testing.T) {
	star, path := "p(X) :- "+joined(16, "e(X, Y@)")+".", "p(X0, X16) :- "+joined(16, "e(X@, X+)")+"."
	for _, c := range [][2]string{
		{star, "p(X) :- e(X, Y0)."}, {path, path}, {"p :- " + joined(12, "e(X@, Y@)") + ".", "p :- e(X0, Y0)."}, {"p :- " + joined(16, "e(X@, X+)") + ".", "p :- " + joined(16, "e(X@, X+)") + "."},
		{"p :- " + joined(15, "e(X@, X+)") + ", e(Z, Z).", "p :- e(Z, Z)."}, {"p :- e(A, B), e(B, A), " + joined(14, "e(X@, X+)") + ".", "p :- e(A, B), e(B, A)."},
		{"p :- " + joined(8, "e(X@, Y@)") + ", " + joined(8, "f(Y@, X@)") + ".", "p :- e(X0, Y0), f(Y0, X0)."},
		{bothWays + " t(X0, X16) :- " + joined(16, "t(X@, X+)") + ". t(X0, X9) :- " + joined(9, "e(X@, X+)") + ".", bothWays},
		{"p(" + joined(12, "X@") + ") :- " + joined(12, "d(X@)") + ", d(Y).", "p(" + joined(12, "X@") + ") :- " + joined(12, "d(X@)") + "."},
		{"w(" + joined(16, "X@") + ") :- " + joined(16, "d(X@)") + ". p(X) :- w(X, " + joined(15, "Y@") + "), d(X).", "w(" + joined(16, "X@") + ") :- " + joined(16, "d(X@)") + ". p(X) :- d(X)."},
	} {
		var want, rules []api.Rule
		for i, l := range []*[]api.Rule{&rules, &want} {
			for _, s := range strings.SplitAfter(c[i], ". ") {
				*l = append(*l, ruleOf(t, strings.TrimSpace(s)))
			}
		}
		l, err := core.Least(rules)
		if err != api.OK || showRules(l...) != showRules(want...) {
			t.Errorf("Least(%s), %d:\n%s", c[0], err, showRules(l...))
		}
	}
	wide := []api.Rule{ruleOf(t, "p("+joined(16, "X@")+") :- "+joined(16, "d(X@)")+"."), {Pred: "p", Head: head(slices.Concat(many(16)[1:], many(1))...), Body: []api.Literal{pos("p", many(16)...)}}}
	if ok, err := core.Follows(wide, wide[0]); !ok || err != api.OK {
		t.Errorf("Follows of a wide rule from itself and one that turns: %v, %d", ok, err)
	}
	if ok, err := core.Same(wide[:1], wide[:1]); !ok || err != api.OK {
		t.Errorf("Same of a wide rule and itself: %v, %d", ok, err)
	}
}

// P21.4: programs as large as a user may hand them in.
func TestManyRules(t *testing.T) {
	var rules, want []api.Rule
	for i := range 250 {
		from, to := "p"+strconv.Itoa(i+1), "p"+strconv.Itoa(i)
		want = append(want, api.Rule{Pred: to, Head: head(v("X")), Body: []api.Literal{pos(from, v("X"))}})
		rules = append(rules, want[i], api.Rule{Pred: to, Head: head(v("X")), Body: []api.Literal{pos("p"+strconv.Itoa(min(i+3, 250)), v("X")), pos("f", v("X"))}})
	}
	l, err := core.Least(rules)
	if err != api.OK || showRules(l...) != showRules(want...) {
		t.Errorf("Least of %d rules: %d rules, %d", len(rules), len(l), err)
	}
}
