package subsume_test

import (
	"fmt"
	"slices"
	"strconv"
	"strings"
	"testing"

	"pedigree/api"
	"pedigree/parse"
	"pedigree/print"
	"pedigree/subsume"
)

func num(n int64) api.Value { return api.Value{Kind: api.KNum, Num: n} }

func text(s string) api.Value { return api.Value{Kind: api.KText, Text: s} }

func v(name string) api.Term { return api.Term{Var: name} }

func ex(t api.Term) api.Expr { return api.Expr{Term: t} }

func op(o api.Op, kids ...api.Expr) api.Expr { return api.Expr{Op: o, Kids: kids} }

func atom(pred string, l ...api.Term) api.Atom { return api.Atom{Pred: pred, Args: l} }

func pos(pred string, l ...api.Term) api.Literal {
	return api.Literal{Kind: api.LPos, Atom: atom(pred, l...)}
}

func not(pred string, l ...api.Term) api.Literal {
	return api.Literal{Kind: api.LNot, Atom: atom(pred, l...)}
}

func cmp(left api.Expr, rel api.Rel, right api.Expr) api.Literal {
	return api.Literal{Kind: api.LCmp, Rel: rel, Left: left, Right: right}
}

func head(l ...api.Term) []api.Arg {
	var out []api.Arg
	for _, t := range l {
		out = append(out, api.Arg{Term: t})
	}
	return out
}

// many are n unlike variables.
func many(n int) []api.Term {
	var out []api.Term
	for i := range n {
		out = append(out, v("X"+strconv.Itoa(i)))
	}
	return out
}

func rulesOf(t *testing.T, source string) []api.Rule {
	t.Helper()
	p, fault := parse.Program(source)
	if (fault != api.Fault{}) {
		t.Fatalf("%s: %v", source, fault)
	}
	return p.Rules
}

func ruleOf(t *testing.T, source string) api.Rule {
	t.Helper()
	r, fault := parse.Rule(source)
	if (fault != api.Fault{}) {
		t.Fatalf("%s: %v", source, fault)
	}
	return r
}

func queryOf(t *testing.T, source string) api.Atom {
	t.Helper()
	q, fault := parse.Query(source)
	if (fault != api.Fault{}) {
		t.Fatalf("%s: %v", source, fault)
	}
	return q
}

// showRules writes rules as a source has them; those that are none as they may be as Go has them.
func showRules(l ...api.Rule) string {
	if s, err := print.Program(api.Program{Rules: l}); err == api.OK {
		return s
	}
	return fmt.Sprintf("%v", l)
}

func showAtom(a api.Atom) string {
	if s, err := print.Query(a); err == api.OK {
		return s
	}
	return fmt.Sprintf("%v", a)
}

func showPairs(l []api.Pair) string {
	var out []string
	for _, p := range l {
		s, _ := print.Term(p.Term)
		out = append(out, p.Var+" = "+s)
	}
	return strings.Join(out, ", ")
}

// brief cuts a text for a message, which has no room for very long ones.
func brief(s string) string {
	if len(s) > 1200 {
		return s[:1200] + " .."
	}
	return s
}

func isZero(r api.Rule) bool { return r.Pred == "" && len(r.Head)+len(r.Body) == 0 }

// wantTidy: the tidy rule, of sources; the empty one: there is none.
func wantTidy(t *testing.T, source, want string) {
	t.Helper()
	r, ok := subsume.Tidy(ruleOf(t, source))
	if want == "" && (ok || !isZero(r)) || want != "" && (!ok || strings.TrimSpace(showRules(r)) != want) {
		t.Errorf("Tidy(%s): %s, %v; want %s", source, showRules(r), ok, want)
	}
}

// no is what wantSubsumes is told where a does not subsume b.
const no = "no"

// wantSubsumes: the pairs, of sources.
func wantSubsumes(t *testing.T, a, b, want string) {
	t.Helper()
	l, ok := subsume.Subsumes(ruleOf(t, a), ruleOf(t, b))
	if got := showPairs(l); want == no && (ok || len(l) > 0) || want != no && (!ok || got != want) {
		t.Errorf("Subsumes(%s, %s): %s, %v; want %s", brief(a), brief(b), got, ok, want)
	}
}

// wantPruned: the rules that are left, of sources.
func wantPruned(t *testing.T, rules, query, want string) {
	t.Helper()
	l, err := subsume.Prune(rulesOf(t, rules), queryOf(t, query))
	if err != api.OK || showRules(l...) != showRules(rulesOf(t, want)...) {
		t.Errorf("Prune(%s, %s), %d:\n%swant:\n%s", rules, query, err, showRules(l...), want)
	}
}

// The chapter's examples. (P20.1 to P20.4)
func TestExamples(t *testing.T) {
	for _, c := range [][2]string{
		{"p(X) :- e(X), 1 < 2, e(X), X = X, not f(X), not f(X).", "p(X) :- e(X), not f(X)."},
		{"p(X) :- e(X), f(_), f(_), X <= X, X = X + 0.", "p(X) :- e(X), f(_), X = X + 0."},
		{"p(X) :- e(X), 1 / 0 = 1 / 0.", ""}, {"p(X) :- e(X), X != X.", ""}, {"p(X) :- e(X), not e(X).", ""},
		{"p(X) :- e(X), a < 3.", ""}, {"p(X) :- e(X), 3 < a.", "p(X) :- e(X)."}, {"p(1) :- 1 = 1.", "p(1)."}, {"p(X).", ""},
	} {
		wantTidy(t, c[0], c[1])
	}
	for _, c := range [][3]string{
		{"p(X) :- e(X, Y).", "p(A) :- f(A), e(A, 3).", "X = A, Y = 3"},
		{"p(X) :- e(X, _).", "p(A) :- e(A, A).", "X = A"}, {"p(A) :- e(A, A).", "p(X) :- e(X, _).", no},
		{"p(X) :- e(X, Y).", "p(A) :- e(A, _).", no},
		{"p :- e(X), e(Y).", "p :- e(A), e(B).", "X = A, Y = A"},
		{"p :- e(X, Y), e(Y, Z).", "p :- e(A, B), e(B, A).", "X = A, Y = B, Z = A"},
		{"p(X, X) :- e(X).", "p(A, B) :- e(A), e(B).", no},
		{"p(X) :- e(X), X > 1.", "p(3) :- e(3), 3 > 1.", "X = 3"},
		{"p(X) :- not f(X, _), e(X).", "p(A) :- e(A), not f(A, 1).", no},
		{"p(count()) :- e(X).", "p(count()) :- e(Y).", "X = Y"}, {"p(count()) :- e(X).", "p(count()) :- e(Y), f(Y).", no},
	} {
		wantSubsumes(t, c[0], c[1], c[2])
	}
	wantPruned(t, "p(X) :- e(X). p(X) :- e(X), f(X). p(Y) :- e(Y). q(X) :- p(X), 1 > 2. r(X) :- p(X).", "p(_)?", "p(X) :- e(X).")
	const some = "p(X) :- q(X), r(X). p(X) :- q(X). q(1). r(1)."
	wantPruned(t, some, "p(1)?", "p(X) :- q(X). q(1).")
	wantPruned(t, some, "nobody(X)?", "")
	wantPruneCode(t, rulesOf(t, some), queryOf(t, "p(1, 2)?"), api.ErrArity)
}

// P20.2: which comparisons always hold, and which never do: each by each relation.
func TestComparisons(t *testing.T) {
	rels := []string{"=", "!=", "<", "<=", ">", ">="}
	for _, c := range []struct {
		left, right string
		holds       string // of each relation: y, n, or - where it hangs on the variables
	}{
		{"X", "X", "ynnyny"}, {"1", "1", "ynnyny"}, {"a", "a", "ynnyny"}, {"1", "2", "nyyynn"}, {"2", "1", "nynnyy"},
		{"7", "a", "nyyynn"}, {"a", "7", "nynnyy"}, {"ab", "b", "nyyynn"}, {"1", `"1"`, "nyyynn"}, {`""`, "-9", "nynnyy"},
		{"1 + 1", "2", "ynnyny"}, {"2 * 3", "7 - 1", "ynnyny"}, {"-9223372036854775807 - 2", "9223372036854775807", "ynnyny"},
		{"len(abc)", "3", "ynnyny"}, {"back(ab)", "b & a", "ynnyny"}, {"chars(ab) + 1", "-4", "nynnyy"}, {"7 % 4", "7 / 2", "ynnyny"},
		// without a value nothing holds
		{"1 / 0", "1", "nnnnnn"}, {"1", "1 / 0", "nnnnnn"}, {"1 / 0", "1 / 0", "nnnnnn"}, {"1 % (2 - 2)", "a", "nnnnnn"},
		{"len(1)", "len(1)", "nnnnnn"}, {"a + 1", "0", "nnnnnn"}, {"1 & a", "b", "nnnnnn"}, {"-(a & b)", "3", "nnnnnn"},
		// what is more than a lone variable has its value where it has one
		{"X", "Y", "------"}, {"X", "1", "------"}, {"X + 0", "X", "------"}, {"X + 1", "X + 1", "------"}, {"-X", "-X", "------"},
		{"X * 0", "0", "------"}, {"1 / 0", "X", "------"}, {"X", "1 / 0", "------"}, {"X / 0", "X / 0", "------"}, {"len(X)", "len(X)", "------"},
	} {
		for i, rel := range rels {
			l := c.left + " " + rel + " " + c.right
			want := map[byte]string{'y': "p(X) :- e(X, Y).", 'n': "", '-': "p(X) :- e(X, Y), " + l + "."}[c.holds[i]]
			wantTidy(t, "p(X) :- e(X, Y), "+l+".", want)
			if want != "" {
				want = map[byte]string{'y': "p(X) :- e(X, Y).", '-': "p(X) :- " + l + ", e(X, Y)."}[c.holds[i]]
			}
			wantTidy(t, "p(X) :- "+l+", e(X, Y), "+l+".", want)
		}
	}
}

// P20.2: what stands twice, what is denied, and what only looks like it.
func TestTidy(t *testing.T) {
	for _, c := range [][2]string{
		// the first one stays, and the order
		{"p(X) :- f(X), e(X), g, f(X), e(X), g, e(X).", "p(X) :- f(X), e(X), g."},
		{"p(X) :- X > 1, not f(X), e(X), not f(X), X > 1.", "p(X) :- X > 1, not f(X), e(X)."},
		{"p(X) :- e(X), X = X, X = X, 1 = 1, 1 = 1.", "p(X) :- e(X)."},
		{"p(Y) :- e(X), Y = X, Y = X.", "p(Y) :- e(X), Y = X."},
		{"p(X) :- e(X, _, 3, a), e(X, _, 3, a).", "p(X) :- e(X, _, 3, a)."},
		{"p(X) :- e(X), -(X + 1) * 2 < 7, -(X + 1) * 2 < 7.", "p(X) :- e(X), -(X + 1) * 2 < 7."},
		// not the same
		{"p(X) :- e(X, Y), e(Y, X), e(X, _), e(_, X), e(_, _).", "p(X) :- e(X, Y), e(Y, X), e(X, _), e(_, X), e(_, _)."},
		{`p(X) :- e(X), f(1), f("1"), f(X), g(X), f(2).`, `p(X) :- e(X), f(1), f("1"), f(X), g(X), f(2).`},
		{"p(X) :- e(X, Y), X = Y, Y = X, X <= Y, Y >= X, X < Y + 1, X < 1 + Y.", "p(X) :- e(X, Y), X = Y, Y = X, X <= Y, Y >= X, X < Y + 1, X < 1 + Y."},
		{"p(X) :- e(X), -X < 3, X * 2 < 3, X / 2 < 3, len(X) < 3, chars(X) < 3.", "p(X) :- e(X), -X < 3, X * 2 < 3, X / 2 < 3, len(X) < 3, chars(X) < 3."},
		// denied, whatever stands first or between
		{"p(X) :- not e(X), e(X), f(X).", ""}, {"p(X) :- e(X), f(X), X > 1, not e(X).", ""}, {"p(X) :- f(X), f(X), not f(X).", ""},
		{"p :- e, not e.", ""}, {"p :- not e, e.", ""}, {"p :- e(1, a), not e(1, a).", ""}, {"p(X) :- e(X, _), not e(X, _).", ""}, {"p :- e(_), not e(_).", ""},
		{"p(count()) :- e(X), not e(X).", ""},
		// not denied
		{"p(X) :- e(X), not e(_).", "p(X) :- e(X), not e(_)."}, {"p(X) :- e(X, _), e(X, Y), not e(Y, X).", "p(X) :- e(X, _), e(X, Y), not e(Y, X)."},
		{"p(X) :- e(X), f(Y), not e(Y), not f(X).", "p(X) :- e(X), f(Y), not e(Y), not f(X)."}, {"p :- e, not f.", "p :- e, not f."}, {"p(X) :- e(X), not p(X).", "p(X) :- e(X), not p(X)."},
		{"p :- e(1), not e(2).", "p :- e(1), not e(2)."}, {`p :- e(1), not e("1").`, `p :- e(1), not e("1").`}, {"p :- not e, not e.", "p :- not e."},
		// one that never holds beside what is needless
		{"p(X) :- e(X), X = X, e(X), X < X.", ""}, {"p :- 2 > 1, 1 > 2.", ""},
		// heads as they are
		{"p(X, 3, X, a) :- e(X), 0 = 0.", "p(X, 3, X, a) :- e(X)."}, {"p(count(), D, sum(X), min(X), max(D)) :- e(D, X), e(D, X), X >= X.", "p(count(), D, sum(X), min(X), max(D)) :- e(D, X)."},
		{"p :- 0 = 0.", "p."}, {"p.", "p."}, {"p(1, a).", "p(1, a)."}, {"q_p :- q_e, q_e.", "q_p :- q_e."},
	} {
		wantTidy(t, c[0], c[1])
	}
}

// P20.3: which mapping there is, without aggregates.
func TestSubsumes(t *testing.T) {
	for _, c := range [][3]string{
		// heads
		{"p(X) :- e(X).", "q(X) :- e(X).", no}, {"p(X) :- e(X).", "p :- e(X).", no}, {"p :- e(X).", "p(X) :- e(X).", no}, {"p(X) :- e(X).", "p(Y) :- e(X), f(Y).", no},
		{"p(1).", "p(1) :- e(_).", ""}, {"p(1).", "p(2).", no}, {"p(1).", `p("1").`, no}, {"p(1).", "p(X) :- e(X).", no}, {"p(X) :- e(X).", "p(1).", no}, {"p.", "p.", ""}, {"p(a, 1).", "p(a, 1).", ""},
		{"p(X, Y) :- e(X, Y).", "p(A, A) :- e(A, A).", "X = A, Y = A"}, {"p(A, A) :- e(A, A).", "p(X, Y) :- e(X, Y).", no},
		{"p(X, Y) :- e(X, Y).", "p(3, a) :- e(3, a).", "X = 3, Y = a"}, {"p(X, Y) :- e(X, Y).", "p(3, a) :- e(a, 3).", no},
		{"p(Y, X) :- e(X, Z), e(Z, Y).", "p(B, A) :- e(A, C), e(C, B).", "Y = B, X = A, Z = C"},
		// the names in a and in b have nothing to do with one another
		{"p(X, Y) :- e(X, Y).", "p(Y, X) :- e(Y, X).", "X = Y, Y = X"}, {"p(X, Y) :- e(X, Y), f(Z).", "p(Z, X) :- f(Y), e(Z, X).", "X = Z, Y = X, Z = Y"},
		{"p(X) :- e(X, Y), e(Y, X).", "p(Y) :- e(X, Y), e(Y, X).", "X = Y, Y = X"},
		// atoms: names, columns, values, blanks
		{"p :- e(X).", "p :- f(X).", no}, {"p :- e(X).", "p :- e(X, X).", no}, {"p :- e(_, _).", "p :- e(_).", no}, {"p :- e.", "p :- e, f.", ""}, {"p :- e, f.", "p :- e.", no},
		{"p :- e(3).", "p :- e(3).", ""}, {"p :- e(3).", "p :- e(4).", no}, {"p :- e(3).", "p :- e(X).", no}, {"p :- e(3).", "p :- e(_).", no},
		{"p :- e(_).", "p :- e(_).", ""}, {"p :- e(_).", "p :- e(3).", ""}, {"p :- e(_, _).", "p :- e(A, 4).", ""}, {"p :- e(X).", "p :- e(_).", no},
		{"p :- e(X, X).", "p :- e(A, B), e(B, B).", "X = B"}, {"p :- e(X, X).", "p :- e(A, 1), e(1, A).", no}, {"p :- e(X, _, X).", "p :- e(1, 2, 3), e(1, _, 1).", "X = 1"},
		// nots: a blank is a blank alone
		{"p(X) :- e(X), not f(X).", "p(A) :- not f(A), e(A), g.", "X = A"}, {"p(X) :- e(X), not f(X).", "p(A) :- e(A), f(A).", no}, {"p(X) :- e(X), f(X).", "p(A) :- e(A), not f(A).", no},
		{"p :- not f(_).", "p :- not f(_).", ""}, {"p :- not f(_).", "p :- not f(1).", no}, {"p :- not f(1).", "p :- not f(_).", no}, {"p(X) :- e(X), not f(X).", "p(X) :- e(X), not f(_).", no}, {"p(X) :- e(X), not f(_).", "p(X) :- e(X), not f(X).", no},
		{"p(X) :- e(X), not f(X, _).", "p(1) :- e(1), not f(1, 2), not f(1, _).", "X = 1"}, {"p :- not f.", "p :- not f.", ""}, {"p :- not f.", "p :- not f(_).", no}, {"p :- not f.", "p :- not g.", no},
		// comparisons: by relation and sides as they stand
		{"p(X) :- e(X), X > 1.", "p(X) :- e(X), 1 < X.", no}, {"p(X) :- e(X), X > 1.", "p(X) :- e(X), X >= 1.", no}, {"p(X) :- e(X), X > 1.", "p(X) :- e(X), X > 2.", no}, {"p(X) :- e(X), X > 1.", "p(X) :- e(X), X > 1, X < 5.", "X = X"},
		{"p(X) :- e(X, Y), X + Y * 2 = 7.", "p(A) :- e(A, 3), A + 3 * 2 = 7.", "X = A, Y = 3"}, {"p(X) :- e(X, Y), X + Y * 2 = 7.", "p(A) :- e(A, 3), (A + 3) * 2 = 7.", no}, {"p(X) :- e(X, Y), X + Y = 7.", "p(A) :- e(A, B), B + A = 7.", no},
		{"p(X) :- e(X), X + X = 4.", "p(X) :- e(X), f(Y), X + Y = 4, Y + X = 4.", no}, {"p(X) :- e(X), X = len(X).", "p(X) :- e(X), X = chars(X).", no}, {"p(X) :- e(X), -X = 4.", "p(X) :- e(X), X = 4.", no}, {"p(X) :- e(X), X = 4.", "p(X) :- e(X), -X = 4.", no},
		{"p(Y) :- e(X), Y = X + 1.", "p(Y) :- e(1), Y = 1 + 1.", "Y = Y, X = 1"}, {"p(X) :- X = 3.", "p(Y) :- Y = 3, e(Y).", "X = Y"}, {"p(X) :- X = 3.", "p(3) :- 3 = 3.", "X = 3"}, {"p(X) :- X = 3.", "p(3).", no},
		{"p :- 1 = 1.", "p.", no}, {"p :- 1 = 1.", "p :- 1 = 1.", ""}, {"p :- X = 1.", "p :- X = Y, Y = 1.", "X = Y"},
		// several literals land on one
		{"p :- e(X), e(Y), e(Z).", "p :- e(A).", "X = A, Y = A, Z = A"}, {"p :- e(X, Y), e(Y, Z), e(Z, X).", "p :- e(A, A).", "X = A, Y = A, Z = A"}, {"p :- e(X, Y), e(Y, Z), e(Z, X).", "p :- e(A, B), e(B, C).", no},
		{"p :- e(X, Y), e(Y, Z), e(Z, X).", "p :- e(A, B), e(B, A).", no}, {"p :- e(X, Y), e(Y, Z), e(Z, W), e(W, X).", "p :- e(A, B), e(B, A).", "X = A, Y = B, Z = A, W = B"},
		{"p :- e(A, B), e(B, C).", "p :- e(X, Y), e(Y, Z), e(Z, X).", "A = X, B = Y, C = Z"},
	} {
		wantSubsumes(t, c[0], c[1], c[2])
	}
}

// P20.3: of several mappings the first one: the row of numbers goes along a's literals and b's.
func TestFirstMapping(t *testing.T) {
	for _, c := range [][3]string{
		{"p :- e(X).", "p :- e(B), e(A), e(3).", "X = B"}, {"p :- e(X).", "p :- f(A), e(3), e(A).", "X = 3"},
		{"p :- e(X), f(X).", "p :- e(C), e(B), e(A), f(A), f(B).", "X = B"}, {"p :- f(X), e(X).", "p :- e(C), e(B), e(A), f(A), f(B).", "X = A"},
		{"p :- e(X), e(Y), f(X, Y).", "p :- e(A), e(B), f(B, A), f(A, B).", "X = A, Y = B"}, {"p :- f(X, Y), e(X), e(Y).", "p :- e(A), e(B), f(B, A), f(A, B).", "X = B, Y = A"},
		// the names' order is that of the rule, the row's that of the body
		{"p :- e(Y, Z), e(X, Y).", "p :- e(A, B), f(A, B), e(B, C).", "Y = B, Z = C, X = A"},
		{"p(Z) :- e(X), f(Y), g(Z).", "p(C) :- g(A), g(C), f(B), f(A), e(B), e(A).", "Z = C, X = B, Y = B"},
		// literals that have nothing to do with one another, in turns
		{"p :- e(X), f(U), e(Y), f(W), g(X, Y), h(U, W).", "p :- e(A), e(B), f(C), f(D), g(B, A), g(A, B), h(D, D), h(D, C).", "X = A, U = D, Y = B, W = C"},
		// one that is free takes the first, though another could not
		{"p :- e(X, _), e(Y, _), f(Y).", "p :- e(A, 1), e(A, 2), e(B, 1), f(B).", "X = A, Y = B"},
		// a low number is no use, if what is behind it finds nothing
		{"p :- e(X, Y), e(Y, Z), e(Z, W), f(W).", "p :- e(1, 2), e(2, 3), e(3, 4), e(4, 5), f(5).", "X = 2, Y = 3, Z = 4, W = 5"},
		{"p :- e(X, Y), e(Y, Z), e(Z, X).", "p :- e(1, 2), e(2, 1), e(3, 4), e(4, 5), e(5, 3).", "X = 3, Y = 4, Z = 5"},
		{"p :- e(X, Y), X < Y.", "p :- e(A, B), e(B, C), e(C, A), C < A, B < C.", "X = B, Y = C"},
		{"p :- X < Y, e(X, Y).", "p :- e(A, B), e(B, C), e(C, A), C < A, B < C.", "X = C, Y = A"},
		{"p :- not f(X), e(X).", "p :- e(A), e(B), not f(B), not f(A).", "X = B"},
		// no two literals are in each other's way behind the first choice, and yet three are: nobody goes round in three steps on 3 and 4
		{"p :- f(X), e(X, Y), e(Y, Z), e(Z, W), e(W, Y).", "p :- f(1), f(2), e(1, 3), e(1, 4), e(3, 4), e(4, 3), e(2, 5), e(2, 6), e(5, 6), e(6, 7), e(7, 5).", "X = 2, Y = 5, Z = 6, W = 7"},
		{"p :- f(X), e(X, Y), e(Y, Z), e(Z, W), e(W, Y).", "p :- f(1), f(2), e(1, 3), e(1, 4), e(3, 4), e(4, 3), e(2, 5), e(2, 6), e(5, 6), e(6, 5).", no},
		{"p :- f(X), f(U), e(X, Y), e(Y, Z), e(Z, W), e(W, Y), g(U, X).", "p :- f(1), f(2), e(1, 3), e(1, 4), e(3, 4), e(4, 3), e(2, 5), e(2, 6), e(5, 6), e(6, 7), e(7, 5), g(2, 2), g(1, 1), g(1, 2).", "X = 2, U = 1, Y = 5, Z = 6, W = 7"},
	} {
		wantSubsumes(t, c[0], c[1], c[2])
	}
}

// P20.3: rules with aggregates: but for names they are the same, or nothing.
func TestSubsumesWithAggregates(t *testing.T) {
	for _, c := range [][3]string{
		{"p(sum(X)) :- e(X, Y).", "p(sum(Y)) :- e(Y, X).", "X = Y, Y = X"}, {"p(sum(X)) :- e(X, Y).", "p(sum(Y)) :- e(X, Y).", no},
		{"p(D, max(X), count()) :- e(X, D, Z), not f(Z), X > 1.", "p(A, max(B), count()) :- e(B, A, C), not f(C), B > 1.", "D = A, X = B, Z = C"},
		{"p(max(X)) :- e(X).", "p(min(X)) :- e(X).", no}, {"p(max(X)) :- e(X).", "p(X) :- e(X).", no}, {"p(X) :- e(X).", "p(max(X)) :- e(X).", no}, {"p(sum(X)) :- e(X).", "p(count()) :- e(X).", no},
		{"p(count()) :- e(X), f(X).", "p(count()) :- f(X), e(X).", no}, {"p(count()) :- e(X), e(X).", "p(count()) :- e(X).", no}, {"p(count()) :- e(X).", "p(count()) :- e(3).", no}, {"p(count()) :- e(_).", "p(count()) :- e(X).", no},
		{"p(count()) :- e(X, Y).", "p(count()) :- e(X, X).", no}, {"p(count()) :- e(X).", "r(count()) :- e(X).", no}, {"p(count()) :- e(X).", "p(count(), count()) :- e(X).", no},
		{"p(X, count()) :- e(X).", "p(3, count()) :- e(3).", no}, {"p(3, count()) :- e(3).", "p(3, count()) :- e(3).", ""}, {"p(count()).", "p(count()).", ""}, {"p(1, count()) :- e(X).", "p(2, count()) :- e(X).", no},
	} {
		wantSubsumes(t, c[0], c[1], c[2])
	}
}

// P20.4: the three steps.
func TestPrune(t *testing.T) {
	for _, c := range [][3]string{
		{"", "p?", ""}, {"p.", "p?", "p."}, {"p(1). p(2). p(1). p(3).", "p(X)?", "p(1). p(2). p(3)."},
		// step 1: tidy rules, in their order; those that never give anything are away, and subsume nothing
		{"p(X) :- e(X), 1 = 1. p(X) :- f(X), f(X). p(X) :- 1 = 2, e(X).", "p(X)?", "p(X) :- e(X). p(X) :- f(X)."},
		{"p(X) :- e(X), X != X. p(X) :- e(X), g.", "p(X)?", "p(X) :- e(X), g."},
		// what is tidy subsumes more
		{"p(X) :- e(X), f(X). p(X) :- e(X), X = X.", "p(X)?", "p(X) :- e(X)."}, {"p(X) :- e(X), X = X. p(X) :- e(X), f(X).", "p(X)?", "p(X) :- e(X)."},
		// step 2: the first of those that subsume each other stays
		{"p(X) :- e(X, Y). p(A) :- e(A, B). p(Y) :- e(Y, X), e(Y, Z).", "p(X)?", "p(X) :- e(X, Y)."}, {"p(Y) :- e(Y, X), e(Y, Z). p(A) :- e(A, B). p(X) :- e(X, Y).", "p(X)?", "p(Y) :- e(Y, X), e(Y, Z)."},
		// one that is more general takes those ahead of it and behind it away
		{"p(X) :- e(X, 1). p(X) :- e(X, _). p(X) :- e(X, X).", "p(X)?", "p(X) :- e(X, _)."}, {"p(1) :- e(1, 1). p(X) :- e(X, 1). p(X) :- e(X, Y).", "p(X)?", "p(X) :- e(X, Y)."}, {"p(X) :- e(X, Y). p(X) :- e(X, 1). p(1) :- e(1, 1).", "p(X)?", "p(X) :- e(X, Y)."},
		{"p(X) :- e(X), f(X). p(X) :- e(X), g(X). p(X) :- e(X), f(X), g(X).", "p(X)?", "p(X) :- e(X), f(X). p(X) :- e(X), g(X)."},
		{"n(count()) :- e(X). n(count()) :- e(Y). n(count()) :- e(X), f(X). n(0) :- e(X). n(max(X)) :- e(X).", "n(X)?", "n(count()) :- e(X). n(count()) :- e(X), f(X). n(0) :- e(X). n(max(X)) :- e(X)."},
		{"p(X) :- e(X). r(X) :- e(X). s(X) :- p(X), r(X).", "s(X)?", "p(X) :- e(X). r(X) :- e(X). s(X) :- p(X), r(X)."},
		// a rule of another predicate is no other rule
		{"p(X) :- p(X). p(X) :- e(X), p(X).", "p(X)?", "p(X) :- p(X)."},
		// step 3: what is reached: through nots, aggregates, one another
		{"p(X) :- e(X), not r(X). r(X) :- s(X). s(count()) :- t(X). t(1). u(1).", "p(X)?", "p(X) :- e(X), not r(X). r(X) :- s(X). s(count()) :- t(X). t(1)."},
		{"p(X) :- e(X), not r(X). r(X) :- s(X). s(count()) :- t(X). t(1). u(1).", "r(X)?", "r(X) :- s(X). s(count()) :- t(X). t(1)."},
		{"a :- b. b :- c. c :- a. d :- a.", "b?", "a :- b. b :- c. c :- a."}, {"a :- b. b :- c. c :- a. d :- a.", "d?", "a :- b. b :- c. c :- a. d :- a."},
		{"p(X) :- e(X).", "e(1)?", ""}, {"p(X) :- e(X). e(1). e(2).", "e(1)?", "e(1). e(2)."}, {"p(X) :- e(X).", "nobody?", ""},
		// behind step 2: what only a rule comes to that is away, is away
		{"p(X) :- q(X). p(X) :- q(X), r(X). q(1). r(X) :- s(X). s(1).", "p(X)?", "p(X) :- q(X). q(1)."}, {"p(X) :- q(X). p(X) :- r(X), 1 > 1. q(1). r(1).", "p(X)?", "p(X) :- q(X). q(1)."},
		{"p(X) :- e(X), not q(X). q(X) :- s(X), X = X. s(1) :- not t. t :- s(2), not s(2).", "p(X)?", "p(X) :- e(X), not q(X). q(X) :- s(X). s(1) :- not t."},
		// rules without levels, and with reserved names
		{"win(X) :- move(X, Y), not win(Y). win(X) :- move(X, Y), not win(Y), X > 1.", "win(X)?", "win(X) :- move(X, Y), not win(Y)."}, {"q_a :- q_b. q_b :- e, e. a :- q_a.", "q_a?", "q_a :- q_b. q_b :- e."},
	} {
		wantPruned(t, c[0], c[1], c[2])
	}
}

// arrows are atoms e between numbered things.
func arrows(begin string, l ...[2]int) []string {
	var out []string
	for _, x := range l {
		out = append(out, fmt.Sprintf("e(%s%d, %s%d)", begin, x[0], begin, x[1]))
	}
	return out
}

// ring is a way of n arrows that comes back; both ways, if there are two.
func ring(n, ways int) [][2]int {
	var out [][2]int
	for i := range n {
		out = append(out, [2]int{i, (i + 1) % n})
		if ways == 2 {
			out = append(out, [2]int{(i + 1) % n, i})
		}
	}
	return out
}

// sides are all arrows between some things and others, both ways.
func sides(a, b int) [][2]int {
	var out [][2]int
	for i := range a {
		for j := range b {
			out = append(out, [2]int{i, a + j}, [2]int{a + j, i})
		}
	}
	return out
}

// R1, P20.3: bodies whose rows of numbers are too many to be gone through one by one.
func TestManyRows(t *testing.T) {
	rule := func(body ...[]string) string { return "p :- " + strings.Join(slices.Concat(body...), ", ") + "." }
	var apart, whole, star [][2]int
	for i := range 10 {
		apart = append(apart, [2]int{10 + 2*i, 11 + 2*i})
	}
	for i := range 6 {
		for j := range i {
			whole = append(whole, [2]int{j, i})
		}
	}
	for i := range 5 {
		star = append(star, [2]int{i, i + 5}, [2]int{i, (i + 1) % 5}, [2]int{i + 5, (i+2)%5 + 5})
	}
	slices.SortStableFunc(star, func(a, b [2]int) int { return (b[1] - b[0]) - (a[1] - a[0]) })
	way := ring(16, 1)[:14]
	odd := ring(15, 1)
	slices.SortStableFunc(odd, func(a, b [2]int) int { return a[0]%2 - b[0]%2 })
	for name, c := range map[string][3]string{
		"an odd ring between two sides":                 {rule(arrows("X", ring(15, 1)...)), rule(arrows("B", sides(2, 4)...)), no},
		"an odd ring, each second arrow first":          {rule(arrows("X", odd...)), rule(arrows("B", sides(2, 4)...)), no},
		"a three ring behind ten lone arrows":           {rule(arrows("X", apart...), arrows("X", ring(3, 1)...)), rule(arrows("B", sides(2, 4)...)), no},
		"six things that all differ, in a ring of five": {rule(arrows("X", whole...)), rule(arrows("B", ring(5, 2)...)), no},
		"Petersen's graph into a ring of seven":         {rule(arrows("X", star...)), rule(arrows("B", ring(7, 2)...)), no},
		"a way to a place that none leads to":           {rule(arrows("X", way...), []string{"f(X14)", "f(X0)"}), rule(arrows("B", sides(2, 3)...), []string{"e(B0, B0)", "f(C)", "f(D)"}), no},
		"ten lone arrows between two sides":             {rule(arrows("X", apart...)), rule(arrows("B", sides(2, 4)...)), showLone(10)},
		"a ring of sixteen between two sides":           {rule(arrows("X", ring(16, 1)...)), rule(arrows("B", sides(2, 4)...)), showRing(16)},
		"all is one":                                    {rule(arrows("X", ring(16, 1)...)), rule(arrows("B", slices.Repeat(ring(1, 1), 16)...)), showSame(16)},
		"the last of fifteen that look alike":           {"p :- e(X), f(X).", rule(lone(15), []string{"f(B14)"}), "X = B14"},
		"fifteen that must all be the last one":         {rule(slices.Repeat([]string{"e(X)"}, 15), []string{"f(X)"}), rule(lone(15), []string{"f(B14)"}), "X = B14"},
	} {
		t.Log(name)
		wantSubsumes(t, c[0], c[1], c[2])
	}
}

func lone(n int) []string {
	var out []string
	for i := range n {
		out = append(out, "e(B"+strconv.Itoa(i)+")")
	}
	return out
}

func showLone(n int) string {
	var out []string
	for i := range n {
		out = append(out, fmt.Sprintf("X%d = B0, X%d = B2", 10+2*i, 11+2*i))
	}
	return strings.Join(out, ", ")
}

func showRing(n int) string {
	var out []string
	for i := range n {
		out = append(out, fmt.Sprintf("X%d = B%d", i, 2*(i%2)))
	}
	return strings.Join(out, ", ")
}

func showSame(n int) string {
	var out []string
	for i := range n {
		out = append(out, fmt.Sprintf("X%d = B0", i))
	}
	return strings.Join(out, ", ")
}

// P20.3: the widest atoms and as many variables as may be, with deep comparisons.
func TestWide(t *testing.T) {
	all := many(api.MaxWide)
	var values []api.Term
	for i := range all {
		values = append(values, api.Term{Val: num(int64(i % 7))})
	}
	deep := func(x api.Term) api.Expr {
		e := ex(x)
		for range api.MaxDepth - 1 {
			e = op(api.OpAdd, e, e)
		}
		return e
	}
	wide := func(l []api.Term) api.Rule {
		r := api.Rule{Pred: "p", Head: head(l...)}
		for i := range api.MaxBody / 2 {
			r.Body = append(r.Body, pos("e", append(slices.Clone(l[i:]), l[:i]...)...), cmp(deep(l[i]), api.RelLt, deep(l[i+1])))
		}
		return r
	}
	a, b := wide(all), wide(values)
	l, ok := subsume.Subsumes(a, b)
	if !ok || len(l) != len(all) {
		t.Fatalf("%d pairs, %v", len(l), ok)
	}
	for i, p := range l {
		if p.Var != all[i].Var || p.Term != values[i] {
			t.Errorf("%v", p)
		}
	}
	if l, ok := subsume.Subsumes(b, a); ok || len(l) > 0 {
		t.Errorf("the other way round: %v", l)
	}
	if r, ok := subsume.Tidy(a); !ok || showRules(r) != showRules(a) {
		t.Errorf("Tidy: %v", ok)
	}
	// 16 literals of 24 columns, each with more unlike terms than a mapping needs
	var texts []api.Literal
	for i := range api.MaxBody {
		lit := pos("e")
		for j := range api.MaxWide {
			lit.Atom.Args = append(lit.Atom.Args, api.Term{Val: text(strconv.Itoa(i*100 + j))})
		}
		texts = append(texts, lit)
	}
	l, ok = subsume.Subsumes(api.Rule{Pred: "p", Body: []api.Literal{pos("e", all...), pos("e", all...)}}, api.Rule{Pred: "p", Body: texts})
	if !ok || len(l) != 24 || l[23].Term.Val != text("23") {
		t.Errorf("%v, %v", l, ok)
	}
}

// P20.4: as many rules as a user may hand in, with long bodies; and a chain of predicates.
func TestManyRules(t *testing.T) {
	var rules []api.Rule
	for i := range api.MaxRules {
		r := api.Rule{Pred: "p"}
		for j := range api.MaxLits {
			r.Body = append(r.Body, pos("e", v("X"+strconv.Itoa(i*j%7)), api.Term{Val: num(int64(i))}))
		}
		rules = append(rules, r)
	}
	l, err := subsume.Prune(rules, atom("p"))
	if err != api.OK || len(l) != api.MaxRules {
		t.Errorf("%d rules, %d", len(l), err)
	}
	rules = append(rules, ruleOf(t, "p :- e(_, _)."))
	if l, err := subsume.Prune(rules, atom("p")); err != api.OK || showRules(l...) != "p :- e(_, _).\n" {
		t.Errorf("%s, %d", brief(showRules(l...)), err)
	}
	rules = nil
	for i := range 4000 {
		rules = append(rules, api.Rule{Pred: "p" + strconv.Itoa(i), Body: []api.Literal{pos("p" + strconv.Itoa(i+1))}})
	}
	if l, err := subsume.Prune(rules, atom("p1000")); err != api.OK || len(l) != 3000 || l[0].Pred != "p1000" || l[2999].Pred != "p3999" {
		t.Errorf("%d rules, %d", len(l), err)
	}
}
