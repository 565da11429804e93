package magic_test

import (
	"fmt"
	"slices"
	"strconv"
	"strings"
	"testing"

	"pedigree/api"
	"pedigree/magic"
	"pedigree/parse"
	"pedigree/print"
)

const ancestors = "anc(X, Y) :- par(X, Y). anc(X, Y) :- par(X, Z), anc(Z, Y)."

func num(n int64) api.Value { return api.Value{Kind: api.KNum, Num: n} }

func text(s string) api.Value { return api.Value{Kind: api.KText, Text: s} }

func v(name string) api.Term { return api.Term{Var: name} }

func ex(t api.Term) api.Expr { return api.Expr{Term: t} }

func op(o api.Op, kids ...api.Expr) api.Expr { return api.Expr{Op: o, Kids: kids} }

func atom(pred string, l ...api.Term) api.Atom { return api.Atom{Pred: pred, Args: l} }

func pos(pred string, l ...api.Term) api.Literal {
	return api.Literal{Kind: api.LPos, Atom: atom(pred, l...)}
}

func not(pred string, l ...api.Term) api.Literal {
	return api.Literal{Kind: api.LNot, Atom: atom(pred, l...)}
}

func cmp(left api.Expr, rel api.Rel, right api.Expr) api.Literal {
	return api.Literal{Kind: api.LCmp, Rel: rel, Left: left, Right: right}
}

func head(l ...api.Term) []api.Arg {
	var out []api.Arg
	for _, t := range l {
		out = append(out, api.Arg{Term: t})
	}
	return out
}

// many are n unlike variables.
func many(n int) []api.Term {
	var out []api.Term
	for i := range n {
		out = append(out, v("X"+strconv.Itoa(i)))
	}
	return out
}

func rulesOf(t *testing.T, source string) []api.Rule {
	t.Helper()
	p, fault := parse.Program(source)
	if (fault != api.Fault{}) {
		t.Fatalf("%s: %v", source, fault)
	}
	return p.Rules
}

func factsOf(t *testing.T, source string) []api.Fact {
	t.Helper()
	l, fault := parse.Facts(source)
	if (fault != api.Fault{}) {
		t.Fatalf("%s: %v", source, fault)
	}
	return l
}

func queryOf(t *testing.T, source string) api.Atom {
	t.Helper()
	q, fault := parse.Query(source)
	if (fault != api.Fault{}) {
		t.Fatalf("%s: %v", source, fault)
	}
	return q
}

// showRules writes rules as a source has them; those that are none as they may be as Go has them.
func showRules(l []api.Rule) string {
	if s, err := print.Program(api.Program{Rules: l}); err == api.OK {
		return s
	}
	return fmt.Sprintf("%v", l)
}

func showAtom(a api.Atom) string {
	if s, err := print.Query(a); err == api.OK {
		return s
	}
	return fmt.Sprintf("%v", a)
}

func showFacts(l []api.Fact) string {
	if s, err := print.Facts(l); err == api.OK {
		return s
	}
	return fmt.Sprintf("%v", l)
}

// showTuples writes tuples as the facts of a predicate t.
func showTuples(l [][]api.Value) string {
	var out []api.Fact
	for _, tuple := range l {
		out = append(out, api.Fact{Pred: "t", Args: tuple})
	}
	return showFacts(out)
}

// told writes all that Rewrite answers beside its error.
func told(g api.Goal) string {
	return showRules(g.Rules) + showAtom(g.Query) + "\n" + showFacts(g.Seeds)
}

// brief cuts a text for a message, which has no room for very long ones.
func brief(s string) string {
	if len(s) > 1200 {
		return s[:1200] + " .."
	}
	return s
}

func mustRewrite(t *testing.T, rules []api.Rule, q api.Atom) api.Goal {
	t.Helper()
	g, err := magic.Rewrite(rules, q)
	if err != api.OK {
		t.Fatalf("Rewrite(%s, %s): %d", brief(showRules(rules)), showAtom(q), err)
	}
	return g
}

func mustSolve(t *testing.T, rules []api.Rule, l []api.Fact, q api.Atom) ([][]api.Value, []api.Fact) {
	t.Helper()
	answers, own, err := magic.Solve(rules, l, q)
	if err != api.OK {
		t.Fatalf("Solve(%s, %s, %s): %d", brief(showRules(rules)), brief(showFacts(l)), showAtom(q), err)
	}
	return answers, own
}

// wantRewrite: the query, the seeds and the rules, one behind the other, of sources.
func wantRewrite(t *testing.T, rules, query, asked, seeds, written string) {
	t.Helper()
	g := mustRewrite(t, rulesOf(t, rules), queryOf(t, query))
	want := showRules(rulesOf(t, written)) + asked + "\n" + showFacts(factsOf(t, seeds))
	if got := told(g); got != want {
		t.Errorf("Rewrite(%s, %s):\n%s\nwant:\n%s", rules, query, got, want)
	}
}

// wantSolve: the answers, as facts of a predicate t, and the facts that begin with q_.
func wantSolve(t *testing.T, rules, facts, query, answers, own string) {
	t.Helper()
	got, found := mustSolve(t, rulesOf(t, rules), factsOf(t, facts), queryOf(t, query))
	if showTuples(got) != showFacts(factsOf(t, answers)) || showFacts(found) != showFacts(factsOf(t, own)) {
		t.Errorf("Solve(%s, %s, %s):\n%s%s\nwant:\n%s\n%s", rules, facts, query, showTuples(got), showFacts(found), answers, own)
	}
}

// The chapter's examples of Rewrite. (P19.2)
func TestExamples(t *testing.T) {
	wantRewrite(t, ancestors, "anc(1, X)?", "q_bf_anc(1, X)?", "q_m_bf_anc(1).", `
		q_bf_anc(X, Y) :- q_m_bf_anc(X), par(X, Y).
		q_s_1_0(X, Z) :- q_m_bf_anc(X), par(X, Z).
		q_m_bf_anc(Z) :- q_s_1_0(X, Z).
		q_bf_anc(X, Y) :- q_s_1_0(X, Z), q_bf_anc(Z, Y).
		q_bf_anc(V0, V1) :- q_m_bf_anc(V0), anc(V0, V1).`)
	wantRewrite(t, "same(X, Y) :- up(X, U), same(U, W), down(W, Y), U != Y. same(X, X) :- person(X).", "same(a, Y)?", "q_bf_same(a, Y)?", "q_m_bf_same(a).", `
		q_s_0_0(X, U) :- q_m_bf_same(X), up(X, U).
		q_m_bf_same(U) :- q_s_0_0(X, U).
		q_bf_same(X, Y) :- q_s_0_0(X, U), q_bf_same(U, W), down(W, Y), U != Y.
		q_bf_same(X, X) :- q_m_bf_same(X), person(X).
		q_bf_same(V0, V1) :- q_m_bf_same(V0), same(V0, V1).`)
	wantRewrite(t, "p(X) :- a(X, Y), r(Y, Z), b(Z), r(Z, X). r(X, Y) :- e(X, Y).", "p(X)?", "q_f_p(X)?", "q_m_f_p.", `
		q_s_0_0(X, Y) :- q_m_f_p, a(X, Y).
		q_m_bf_r(Y) :- q_s_0_0(X, Y).
		q_s_0_1(X, Z) :- q_s_0_0(X, Y), q_bf_r(Y, Z), b(Z).
		q_m_bb_r(Z, X) :- q_s_0_1(X, Z).
		q_f_p(X) :- q_s_0_1(X, Z), q_bb_r(Z, X).
		q_f_p(V0) :- q_m_f_p, p(V0).
		q_bf_r(X, Y) :- q_m_bf_r(X), e(X, Y).
		q_bf_r(V0, V1) :- q_m_bf_r(V0), r(V0, V1).
		q_bb_r(X, Y) :- q_m_bb_r(X, Y), e(X, Y).
		q_bb_r(V0, V1) :- q_m_bb_r(V0, V1), r(V0, V1).`)
	wantRewrite(t, ancestors, "par(1, X)?", "par(1, X)?", "", "")
	wantRewrite(t, "", "none(X)?", "none(X)?", "", "")
}

// The chapter's examples of Solve. (P19.5)
func TestSolveExamples(t *testing.T) {
	wantSolve(t, ancestors, "par(1, 2). par(2, 3). par(7, 8).", "anc(1, X)?", "t(1, 2). t(1, 3).",
		"q_bf_anc(1, 2). q_bf_anc(1, 3). q_bf_anc(2, 3). q_m_bf_anc(1). q_m_bf_anc(2). q_m_bf_anc(3). q_s_1_0(1, 2). q_s_1_0(2, 3).")
	wantSolve(t, ancestors, "par(1, 2).", "par(X, 2)?", "t(1, 2).", "")
	wantSolve(t, ancestors, "anc(5, 6). par(4, 5).", "anc(4, X)?", "t(4, 5). t(4, 6).",
		"q_bf_anc(4, 5). q_bf_anc(4, 6). q_bf_anc(5, 6). q_m_bf_anc(4). q_m_bf_anc(5). q_s_1_0(4, 5).")
	wantSolve(t, "r(Z) :- W = Z + 1, r(W), e(Z, Y).", "r(1). e(0, 0).", "r(0)?", "t(0).",
		"q_b_r(0). q_f_r(0). q_f_r(1). q_m_b_r(0). q_m_f_r. q_s_0_0(0). q_s_2_0.")
	// the first of the document's ten examples: nobody asks for ann or eve
	wantSolve(t, "anc(X, Y) :- par(X, Y). anc(X, Z) :- par(X, Y), anc(Y, Z).", "par(ann, bob). par(bob, cy). par(cy, dan). par(eve, dan).", "anc(bob, X)?", "t(bob, cy). t(bob, dan).",
		"q_bf_anc(bob, cy). q_bf_anc(bob, dan). q_bf_anc(cy, dan). q_m_bf_anc(bob). q_m_bf_anc(cy). q_m_bf_anc(dan). q_s_1_0(bob, cy). q_s_1_0(cy, dan).")
}

// P19.2: what the parts of rules come to.
func TestParts(t *testing.T) {
	for _, c := range [][5]string{
		// without columns; the same atom twice
		{"p :- e, p, p.", "p?", "q__p?", "q_m__p.", `
			q_s_0_0 :- q_m__p, e. q_m__p :- q_s_0_0.
			q_s_0_1 :- q_s_0_0, q__p. q_m__p :- q_s_0_1.
			q__p :- q_s_0_1, q__p. q__p :- q_m__p, p.`},
		// rules without a body, and with values in the head, asked and not asked
		{"p(1, X) :- e(X). p(2, a).", "p(X, Y)?", "q_ff_p(X, Y)?", "q_m_ff_p.", "q_ff_p(1, X) :- q_m_ff_p, e(X). q_ff_p(2, a) :- q_m_ff_p. q_ff_p(V0, V1) :- q_m_ff_p, p(V0, V1)."},
		{"p(1, X) :- e(X). p(2, a).", `p(7, "")?`, `q_bb_p(7, "")?`, `q_m_bb_p(7, "").`, "q_bb_p(1, X) :- q_m_bb_p(1, X), e(X). q_bb_p(2, a) :- q_m_bb_p(2, a). q_bb_p(V0, V1) :- q_m_bb_p(V0, V1), p(V0, V1)."},
		// values of the query in their order, variables and blanks between them
		{"p(A, B, C, D, E) :- e(A, B, C, D, E).", "p(b, X, a, _, 0)?", "q_bfbfb_p(b, X, a, _, 0)?", "q_m_bfbfb_p(b, a, 0).",
			"q_bfbfb_p(A, B, C, D, E) :- q_m_bfbfb_p(A, C, E), e(A, B, C, D, E). q_bfbfb_p(V0, V1, V2, V3, V4) :- q_m_bfbfb_p(V0, V2, V4), p(V0, V1, V2, V3, V4)."},
		// a variable twice in the head: by one column, by both
		{"p(X, X) :- e(X).", "p(1, Y)?", "q_bf_p(1, Y)?", "q_m_bf_p(1).", "q_bf_p(X, X) :- q_m_bf_p(X), e(X). q_bf_p(V0, V1) :- q_m_bf_p(V0), p(V0, V1)."},
		{"p(X, X) :- e(X).", "p(1, 2)?", "q_bb_p(1, 2)?", "q_m_bb_p(1, 2).", "q_bb_p(X, X) :- q_m_bb_p(X, X), e(X). q_bb_p(V0, V1) :- q_m_bb_p(V0, V1), p(V0, V1)."},
		// a pair's atom first, with values and a blank
		{"p(X) :- r(X, 3, _), e(X). r(X, Y, Z) :- f(X, Y, Z).", "p(1)?", "q_b_p(1)?", "q_m_b_p(1).", `
			q_s_0_0(X) :- q_m_b_p(X). q_m_bbf_r(X, 3) :- q_s_0_0(X). q_b_p(X) :- q_s_0_0(X), q_bbf_r(X, 3, _), e(X).
			q_b_p(V0) :- q_m_b_p(V0), p(V0).
			q_bbf_r(X, Y, Z) :- q_m_bbf_r(X, Y), f(X, Y, Z). q_bbf_r(V0, V1, V2) :- q_m_bbf_r(V0, V1), r(V0, V1, V2).`},
		// nots and comparisons stay in the part in which they are asked
		{"p(X) :- e(X, Y), not f(Y), r(Y), X < Y, r(X), Z = X + Y, not g(Z). r(X) :- e(X, X).", "p(X)?", "q_f_p(X)?", "q_m_f_p.", `
			q_s_0_0(X, Y) :- q_m_f_p, e(X, Y), not f(Y), X < Y. q_m_b_r(Y) :- q_s_0_0(X, Y).
			q_s_0_1(X, Y) :- q_s_0_0(X, Y), q_b_r(Y). q_m_b_r(X) :- q_s_0_1(X, Y).
			q_f_p(X) :- q_s_0_1(X, Y), q_b_r(X), Z = X + Y, not g(Z). q_f_p(V0) :- q_m_f_p, p(V0).
			q_b_r(X) :- q_m_b_r(X), e(X, X). q_b_r(V0) :- q_m_b_r(V0), r(V0).`},
		// a test ahead of the first atom: what is asked is known
		{"p(X) :- r(X), X > 1, 1 < 2, not f(X). r(X) :- e(X).", "p(5)?", "q_b_p(5)?", "q_m_b_p(5).", `
			q_s_0_0(X) :- q_m_b_p(X), X > 1, 1 < 2, not f(X). q_m_b_r(X) :- q_s_0_0(X). q_b_p(X) :- q_s_0_0(X), q_b_r(X). q_b_p(V0) :- q_m_b_p(V0), p(V0).
			q_b_r(X) :- q_m_b_r(X), e(X). q_b_r(V0) :- q_m_b_r(V0), r(V0).`},
		// a rule that stands twice, one of another predicate between, and one that is not asked
		{"p(X) :- p(X). z(X) :- p(X). p(X) :- p(X).", "p(X)?", "q_f_p(X)?", "q_m_f_p.", `
			q_s_0_0 :- q_m_f_p. q_m_f_p :- q_s_0_0. q_f_p(X) :- q_s_0_0, q_f_p(X).
			q_s_1_0 :- q_m_f_p. q_m_f_p :- q_s_1_0. q_f_p(X) :- q_s_1_0, q_f_p(X). q_f_p(V0) :- q_m_f_p, p(V0).`},
	} {
		wantRewrite(t, c[0], c[1], c[2], c[3], c[4])
	}
}

// P19.2: which variables are live at a pair's atom, and in which order; r has the columns of its atoms, the query is p's.
func TestLive(t *testing.T) {
	for _, c := range [][3]string{
		// in the order of what is ahead, not of what is behind; the magic atom's first
		{"p(A, B) :- e(C, B, A), r(A), f(B, C). r(X) :- e(X, X, X).", "p(1, X)?", "q_s_0_0(A, C, B) :- q_m_bf_p(A), e(C, B, A)."},
		{"p(A, B) :- e(C, B, A), r(A), f(B, C). r(X) :- e(X, X, X).", "p(X, 1)?", "q_s_0_0(B, C, A) :- q_m_fb_p(B), e(C, B, A)."},
		{"p(A, B) :- e(C, B, A), r(A), f(B, C). r(X) :- e(X, X, X).", "p(2, 1)?", "q_s_0_0(A, B, C) :- q_m_bb_p(A, B), e(C, B, A)."},
		{"p(A, B) :- e(C, B, A), r(A), f(B, C). r(X) :- e(X, X, X).", "p(X, Y)?", "q_s_0_0(C, B, A) :- q_m_ff_p, e(C, B, A)."},
		// those that stand behind it nowhere are left out; in the head alone, in the atom alone, in a not or a comparison alone they are kept
		{"p(A) :- e(A, B, C), r(B). r(X) :- e(X, X, X).", "p(X)?", "q_s_0_0(A, B) :- q_m_f_p, e(A, B, C)."},
		{"p(A) :- e(A, B, C), r(D). r(X) :- e(X, X, X).", "p(X)?", "q_s_0_0(A) :- q_m_f_p, e(A, B, C)."},
		{"p(A) :- e(B, C, D), r(A), not f(D, A). r(X) :- e(X, X, X).", "p(X)?", "q_s_0_0(D) :- q_m_f_p, e(B, C, D)."},
		{"p(A) :- e(B, C, D), r(A), A < 2 * (C - 1). r(X) :- e(X, X, X).", "p(X)?", "q_s_0_0(C) :- q_m_f_p, e(B, C, D)."},
		{"p(A) :- e(B, C, D), r(A), G = C, G != A. r(X) :- e(X, X, X).", "p(X)?", "q_s_0_0(C) :- q_m_f_p, e(B, C, D)."},
		// a variable that is first met in the atom itself is not live there
		{"p(A) :- e(A, A, A), r(B), f(B, A). r(X) :- e(X, X, X).", "p(X)?", "q_s_0_0(A) :- q_m_f_p, e(A, A, A)."},
		// one that is asked, and stands in the head alone, is kept; a test ahead brings none
		{"p(A) :- r(A), 3 > A. r(X) :- e(X, X, X).", "p(7)?", "q_s_0_0(A) :- q_m_b_p(A), 3 > A."},
		{"p(A, B) :- e(A, B, C), r(_). r(X) :- e(X, X, X).", "p(7, Y)?", "q_s_0_0(A, B) :- q_m_bf_p(A), e(A, B, C)."},
		{"p(1) :- e(A, B, C), r(_). r(X) :- e(X, X, X).", "p(X)?", "q_s_0_0 :- q_m_f_p, e(A, B, C)."},
		// blanks and values never are; one that stands twice is there once
		{"p(A) :- e(_, 5, B), e(B, B, A), r(B). r(X) :- e(X, X, X).", "p(X)?", "q_s_0_0(B, A) :- q_m_f_p, e(_, 5, B), e(B, B, A)."},
	} {
		g := mustRewrite(t, rulesOf(t, c[0]), queryOf(t, c[1]))
		if got := strings.TrimSpace(showRules(g.Rules[:1])); got != c[2] {
			t.Errorf("Rewrite(%s, %s): %s; want %s", c[0], c[1], got, c[2])
		}
		if body := g.Rules[1].Body; len(body) != 1 || body[0].Atom.Pred != "q_s_0_0" || len(body[0].Atom.Args) != len(g.Rules[0].Head) {
			t.Errorf("Rewrite(%s, %s): behind it %s", c[0], c[1], showRules(g.Rules[1:2]))
		}
	}
}

// P19.2: variables are dropped and come along from part to part; rules and atoms have numbers of several digits.
func TestManyParts(t *testing.T) {
	rules := slices.Repeat(rulesOf(t, "p(1)."), 12)
	chain := api.Rule{Pred: "p"}
	want := "q_s_12_0 :- q_m_f_p.\nq_m_f_p :- q_s_12_0.\n"
	for i, x := range many(api.MaxBody - 1) {
		chain.Body = append(chain.Body, pos("p", x))
		chain.Head = head(x)
		if i > 0 {
			want += fmt.Sprintf("q_s_12_%d :- q_s_12_%d, q_f_p(X%d).\nq_m_f_p :- q_s_12_%d.\n", i, i-1, i-1, i)
		}
	}
	want += "q_f_p(X14) :- q_s_12_14, q_f_p(X14).\nq_f_p(V0) :- q_m_f_p, p(V0).\n"
	g := mustRewrite(t, append(rules, chain), atom("p", v("_")))
	if got := showRules(g.Rules[12:]); got != want {
		t.Errorf("Rewrite:\n%s\nwant:\n%s", got, want)
	}
	wantRewrite(t, "p(X) :- e(X, A), p(A), e(A, B), p(B), e(B, C), p(C), A < C.", "p(X)?", "q_f_p(X)?", "q_m_f_p.", `
		q_s_0_0(X, A) :- q_m_f_p, e(X, A). q_m_b_p(A) :- q_s_0_0(X, A).
		q_s_0_1(X, A, B) :- q_s_0_0(X, A), q_b_p(A), e(A, B). q_m_b_p(B) :- q_s_0_1(X, A, B).
		q_s_0_2(X, C) :- q_s_0_1(X, A, B), q_b_p(B), e(B, C), A < C. q_m_b_p(C) :- q_s_0_2(X, C).
		q_f_p(X) :- q_s_0_2(X, C), q_b_p(C). q_f_p(V0) :- q_m_f_p, p(V0).
		q_s_2_0(X, A) :- q_m_b_p(X), e(X, A). q_m_b_p(A) :- q_s_2_0(X, A).
		q_s_2_1(X, A, B) :- q_s_2_0(X, A), q_b_p(A), e(A, B). q_m_b_p(B) :- q_s_2_1(X, A, B).
		q_s_2_2(X, C) :- q_s_2_1(X, A, B), q_b_p(B), e(B, C), A < C. q_m_b_p(C) :- q_s_2_2(X, C).
		q_b_p(X) :- q_s_2_2(X, C), q_b_p(C). q_b_p(V0) :- q_m_b_p(V0), p(V0).`)
}

// P19.2: as many columns and variables as may be, all of them live.
func TestWide(t *testing.T) {
	all := many(api.MaxWide)
	turned := slices.Clone(all)
	slices.Reverse(turned)
	rules := []api.Rule{{Pred: "p", Head: head(all...), Body: []api.Literal{pos("e", turned...), pos("p", turned...)}}}
	q := atom("p", slices.Clone(all)...)
	q.Args[0] = api.Term{Val: num(1)}
	g := mustRewrite(t, rules, q)
	if len(g.Rules) != 2*4 || len(g.Rules[0].Head) != 24 || g.Rules[0].Head[0].Term.Var != "X0" || g.Rules[0].Head[1].Term.Var != "X23" || g.Rules[0].Head[23].Term.Var != "X1" {
		t.Fatalf("%s", brief(told(g)))
	}
	if m := g.Rules[1]; len(m.Head) != 24 || m.Pred != "q_m_"+strings.Repeat("b", 24)+"_p" || m.Head[0].Term.Var != "X23" {
		t.Errorf("the magic rule: %v", m)
	}
}

// P19.5: a chain of very many predicates, and of very many facts, of which a part alone is asked.
func TestManyFacts(t *testing.T) {
	const n = 3000
	var l []api.Fact
	for i := range int64(n) {
		l = append(l, api.Fact{Pred: "par", Args: []api.Value{num(i), num(i + 1)}})
	}
	answers, own := mustSolve(t, rulesOf(t, ancestors), l, atom("anc", api.Term{Val: num(n - 30)}, v("X")))
	if len(answers) != 30 || len(own) != 30*31/2+31+30 {
		t.Errorf("%d answers, %d facts", len(answers), len(own))
	}
	name := func(i int) string { return "p" + strconv.Itoa(i) }
	var rules []api.Rule
	for i := n / 2; i >= 0; i-- {
		rules = append(rules, api.Rule{Pred: name(i), Head: head(v("X")), Body: []api.Literal{pos("par", v("X"), v("Y")), pos(name(i+1), v("Y"))}})
	}
	last := api.Fact{Pred: name(n/2 + 1), Args: []api.Value{num(n/2 + 1)}}
	answers, own = mustSolve(t, rules, append(l, last), atom("p0", api.Term{Val: num(0)}))
	if len(answers) != 1 || answers[0][0] != num(0) || len(own) != 3*(n/2+1)-1 {
		t.Errorf("%v, %d facts", answers, len(own))
	}
}
