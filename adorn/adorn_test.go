package adorn_test

import (
	"fmt"
	"slices"
	"strconv"
	"strings"
	"testing"

	"pedigree/adorn"
	"pedigree/api"
	"pedigree/parse"
	"pedigree/print"
)

const ancestors = "anc(X, Y) :- par(X, Y). anc(X, Y) :- anc(Z, Y), par(X, Z)."

func num(n int64) api.Value { return api.Value{Kind: api.KNum, Num: n} }

func text(s string) api.Value { return api.Value{Kind: api.KText, Text: s} }

func v(name string) api.Term { return api.Term{Var: name} }

func ex(t api.Term) api.Expr { return api.Expr{Term: t} }

func op(o api.Op, kids ...api.Expr) api.Expr { return api.Expr{Op: o, Kids: kids} }

func atom(pred string, l ...api.Term) api.Atom { return api.Atom{Pred: pred, Args: l} }

func pos(pred string, l ...api.Term) api.Literal {
	return api.Literal{Kind: api.LPos, Atom: atom(pred, l...)}
}

func not(pred string, l ...api.Term) api.Literal {
	return api.Literal{Kind: api.LNot, Atom: atom(pred, l...)}
}

func cmp(left api.Expr, rel api.Rel, right api.Expr) api.Literal {
	return api.Literal{Kind: api.LCmp, Rel: rel, Left: left, Right: right}
}

func head(l ...api.Term) []api.Arg {
	var out []api.Arg
	for _, t := range l {
		out = append(out, api.Arg{Term: t})
	}
	return out
}

// many are n unlike variables.
func many(n int) []api.Term {
	var out []api.Term
	for i := range n {
		out = append(out, v("X"+strconv.Itoa(i)))
	}
	return out
}

func rulesOf(t *testing.T, source string) []api.Rule {
	t.Helper()
	p, fault := parse.Program(source)
	if (fault != api.Fault{}) {
		t.Fatalf("%s: %v", source, fault)
	}
	return p.Rules
}

func queryOf(t *testing.T, source string) api.Atom {
	t.Helper()
	q, fault := parse.Query(source)
	if (fault != api.Fault{}) {
		t.Fatalf("%s: %v", source, fault)
	}
	return q
}

// showRules writes rules as a source has them; those that are none as they may be as Go has them.
func showRules(l []api.Rule) string {
	if s, err := print.Program(api.Program{Rules: l}); err == api.OK {
		return s
	}
	return fmt.Sprintf("%v", l)
}

func showAtom(a api.Atom) string {
	if s, err := print.Query(a); err == api.OK {
		return s
	}
	return fmt.Sprintf("%v", a)
}

func showPairs(l []api.Adorned) string {
	var out []string
	for _, a := range l {
		out = append(out, a.Pred+" "+a.Pattern)
	}
	return strings.Join(out, ", ")
}

// told writes all that Adorn answers beside its error.
func told(g api.Goal, pairs []api.Adorned) string {
	out := showPairs(pairs) + "\n" + showRules(g.Rules) + showAtom(g.Query)
	if len(g.Seeds) > 0 {
		out += fmt.Sprintf("\n%v", g.Seeds)
	}
	return out
}

// brief cuts a text for a message, which has no room for very long ones.
func brief(s string) string {
	if len(s) > 1200 {
		return s[:1200] + " .."
	}
	return s
}

func mustAdorn(t *testing.T, rules []api.Rule, q api.Atom) (api.Goal, []api.Adorned) {
	t.Helper()
	g, pairs, err := adorn.Adorn(rules, q)
	if err != api.OK {
		t.Fatalf("Adorn(%s, %s): %d", brief(showRules(rules)), showAtom(q), err)
	}
	return g, pairs
}

// wantAdorn: the query, the pairs ("anc bf, anc ff") and the rules, one behind the other, of sources.
func wantAdorn(t *testing.T, rules, query, asked, pairs, written string) {
	t.Helper()
	g, met := mustAdorn(t, rulesOf(t, rules), queryOf(t, query))
	want := pairs + "\n" + showRules(rulesOf(t, written)) + asked
	if got := told(g, met); got != want {
		t.Errorf("Adorn(%s, %s):\n%s\nwant:\n%s", rules, query, got, want)
	}
}

// The chapter's examples of Adorn. (P18.4)
func TestExamples(t *testing.T) {
	wantAdorn(t, ancestors, "anc(1, X)?", "q_bf_anc(1, X)?", "anc bf, anc ff",
		`q_bf_anc(X, Y) :- par(X, Y). q_bf_anc(X, Y) :- q_ff_anc(Z, Y), par(X, Z). q_bf_anc(V0, V1) :- anc(V0, V1).
		q_ff_anc(X, Y) :- par(X, Y). q_ff_anc(X, Y) :- q_ff_anc(Z, Y), par(X, Z). q_ff_anc(V0, V1) :- anc(V0, V1).`)
	wantAdorn(t, "anc(X, Y) :- par(X, Y). anc(X, Y) :- par(X, Z), anc(Z, Y).", "anc(1, X)?", "q_bf_anc(1, X)?", "anc bf",
		"q_bf_anc(X, Y) :- par(X, Y). q_bf_anc(X, Y) :- par(X, Z), q_bf_anc(Z, Y). q_bf_anc(V0, V1) :- anc(V0, V1).")
	wantAdorn(t, "p(X) :- X = 3, e(Y), r(X, Y, _). r(A, B, B) :- f(A, B).", "p(Z)?", "q_f_p(Z)?", "p f, r fbf",
		"q_f_p(X) :- e(Y), q_fbf_r(X, Y, _), X = 3. q_f_p(V0) :- p(V0). q_fbf_r(A, B, B) :- f(A, B). q_fbf_r(V0, V1, V2) :- r(V0, V1, V2).")
	wantAdorn(t, "r(Z) :- W = Z + 1, r(W), e(Z, Y).", "r(0)?", "q_b_r(0)?", "r b, r f",
		"q_b_r(Z) :- q_f_r(W), W = Z + 1, e(Z, Y). q_b_r(V0) :- r(V0). q_f_r(Z) :- q_f_r(W), e(Z, Y), W = Z + 1. q_f_r(V0) :- r(V0).")
	wantAdorn(t, "p(X, N) :- N = X, e(X), M = N, not f(M).", "p(X, Y)?", "q_ff_p(X, Y)?", "p ff",
		"q_ff_p(X, N) :- e(X), N = X, M = N, not f(M). q_ff_p(V0, V1) :- p(V0, V1).")
	wantAdorn(t, "p(X) :- e(X), not f(X).", "p(1)?", "q_b_p(1)?", "p b", "q_b_p(X) :- not f(X), e(X). q_b_p(V0) :- p(V0).")
	wantAdorn(t, ancestors, "par(1, X)?", "par(1, X)?", "", "")
	wantAdorn(t, "", "none(X)?", "none(X)?", "", "")
}

// P18.4: which pairs are met, in which order, and what their rules are.
func TestPairs(t *testing.T) {
	for _, c := range [][5]string{
		// without columns; a predicate asked twice by one pattern
		{"p :- e, p, p.", "p?", "q__p?", "p ", "q__p :- e, q__p, q__p. q__p :- p."},
		// rules without a body; a rule that stands twice
		{"p(1). p(X) :- e(X). p(1).", "p(_)?", "q_f_p(_)?", "p f", "q_f_p(1). q_f_p(X) :- e(X). q_f_p(1). q_f_p(V0) :- p(V0)."},
		// the rules of a pair in their order, those of others between them; what is not asked is not written
		{"p(X) :- a(X). r(X) :- p(X). a(X) :- e(X). p(X) :- b(X). b(X) :- e(X).", "p(X)?", "q_f_p(X)?", "p f, a f, b f",
			"q_f_p(X) :- q_f_a(X). q_f_p(X) :- q_f_b(X). q_f_p(V0) :- p(V0). q_f_a(X) :- e(X). q_f_a(V0) :- a(V0). q_f_b(X) :- e(X). q_f_b(V0) :- b(V0)."},
		// met pair by pair: d, for which b asks, stands ahead of c, for which a asks
		{"p :- b(1), a(1). a(X) :- c(X), e(X). b(X) :- d(X). c(X) :- e(X). d(X) :- c(X).", "p?", "q__p?", "p , b b, a b, d b, c b",
			`q__p :- q_b_b(1), q_b_a(1). q__p :- p. q_b_b(X) :- q_b_d(X). q_b_b(V0) :- b(V0). q_b_a(X) :- q_b_c(X), e(X). q_b_a(V0) :- a(V0).
			q_b_d(X) :- q_b_c(X). q_b_d(V0) :- d(V0). q_b_c(X) :- e(X). q_b_c(V0) :- c(V0).`},
		// one predicate by all its patterns
		{"s(X, Y) :- e(X, Y). s(X, Y) :- s(Y, X). p(X) :- s(X, Y), s(Y, Z), s(Z, X).", "p(5)?", "q_b_p(5)?", "p b, s bf, s bb, s fb",
			`q_b_p(X) :- q_bf_s(X, Y), q_bf_s(Y, Z), q_bb_s(Z, X). q_b_p(V0) :- p(V0).
			q_bf_s(X, Y) :- e(X, Y). q_bf_s(X, Y) :- q_fb_s(Y, X). q_bf_s(V0, V1) :- s(V0, V1).
			q_bb_s(X, Y) :- e(X, Y). q_bb_s(X, Y) :- q_bb_s(Y, X). q_bb_s(V0, V1) :- s(V0, V1).
			q_fb_s(X, Y) :- e(X, Y). q_fb_s(X, Y) :- q_bf_s(Y, X). q_fb_s(V0, V1) :- s(V0, V1).`},
		// heads with values and with a variable twice, one column of which is known
		{"p(X, 7, X) :- r(X, 7, _). r(X, Y, Z) :- e(X, Y, Z).", "p(A, A, 3)?", "q_ffb_p(A, A, 3)?", "p ffb, r bbf",
			"q_ffb_p(X, 7, X) :- q_bbf_r(X, 7, _). q_ffb_p(V0, V1, V2) :- p(V0, V1, V2). q_bbf_r(X, Y, Z) :- e(X, Y, Z). q_bbf_r(V0, V1, V2) :- r(V0, V1, V2)."},
		{"p(X, 7, Y) :- r(X, Y). r(X, Y) :- e(X, Y).", "p(A, 7, _)?", "q_fbf_p(A, 7, _)?", "p fbf, r ff",
			"q_fbf_p(X, 7, Y) :- q_ff_r(X, Y). q_fbf_p(V0, V1, V2) :- p(V0, V1, V2). q_ff_r(X, Y) :- e(X, Y). q_ff_r(V0, V1) :- r(V0, V1)."},
		// a variable twice in an atom: neither column is known by the other
		{"p(X) :- r(Y, Y, X). r(X, Y, Z) :- e(X, Y, Z).", `p("")?`, `q_b_p("")?`, "p b, r ffb",
			"q_b_p(X) :- q_ffb_r(Y, Y, X). q_b_p(V0) :- p(V0). q_ffb_r(X, Y, Z) :- e(X, Y, Z). q_ffb_r(V0, V1, V2) :- r(V0, V1, V2)."},
		// variables of the rules' own by the names that come in
		{"p(V1, V0) :- p(V0, V1), e(V1, V0).", "p(V0, 1)?", "q_fb_p(V0, 1)?", "p fb, p bf",
			"q_fb_p(V1, V0) :- q_bf_p(V0, V1), e(V1, V0). q_fb_p(V0, V1) :- p(V0, V1). q_bf_p(V1, V0) :- q_fb_p(V0, V1), e(V1, V0). q_bf_p(V0, V1) :- p(V0, V1)."},
		// a predicate without rules under a not stays as it is
		{"p(X) :- r(X), not f(X, 1). r(X) :- e(X), not f(X, X).", "p(X)?", "q_f_p(X)?", "p f, r f",
			"q_f_p(X) :- q_f_r(X), not f(X, 1). q_f_p(V0) :- p(V0). q_f_r(X) :- e(X), not f(X, X). q_f_r(V0) :- r(V0)."},
	} {
		wantAdorn(t, c[0], c[1], c[2], c[3], c[4])
	}
}

// The words 'the order of asking', by the one rule of p. (P18.4)
func TestOrderOfAsking(t *testing.T) {
	for _, c := range [][3]string{
		// tests as soon as all is known, nots and comparisons by their numbers
		{"p(X) :- e(X, Y), X < Y, not f(Y), Y != 3.", "p(X)?", "q_f_p(X) :- e(X, Y), X < Y, not f(Y), Y != 3."},
		{"p(X) :- Y != 3, not f(Y), X < Y, e(X, Y).", "p(X)?", "q_f_p(X) :- e(X, Y), Y != 3, not f(Y), X < Y."},
		{"p(X) :- g(X), e(X, Y), not f(X), X > 1, Y > 1.", "p(9)?", "q_b_p(X) :- not f(X), X > 1, g(X), e(X, Y), Y > 1."},
		{"p(X) :- e(X, Y), g(Y), not f(_, Y), 1 < 2, not h.", "p(X)?", "q_f_p(X) :- 1 < 2, not h, e(X, Y), not f(_, Y), g(Y)."},
		// atoms by their numbers, whatever is known
		{"p(X) :- e(Y, Z), g(X), e(X, Y).", "p(9)?", "q_b_p(X) :- e(Y, Z), g(X), e(X, Y)."},
		// an equation gives nothing as long as an atom is left
		{"p(X) :- X = 3, e(Y), g(Y).", "p(X)?", "q_f_p(X) :- e(Y), g(Y), X = 3."},
		{"p(X) :- X = 3, e(Y), g(Y).", "p(1)?", "q_b_p(X) :- X = 3, e(Y), g(Y)."},
		{"p(X) :- Y = X, e(X), g(Z), not f(Y).", "p(X)?", "q_f_p(X) :- e(X), g(Z), Y = X, not f(Y)."},
		{"p(X) :- Y = X + 1, e(X), g(Z), not f(Y).", "p(1)?", "q_b_p(X) :- e(X), g(Z), Y = X + 1, not f(Y)."},
		// then that of the least number that can, on either side; what is ready to be tested comes ahead of it
		{"p(X) :- e(X), W = Z, Z = Y, X = Y.", "p(X)?", "q_f_p(X) :- e(X), X = Y, Z = Y, W = Z."},
		{"p(X) :- e(X), A = 1, B = 2, B != X, A != X.", "p(X)?", "q_f_p(X) :- e(X), A = 1, A != X, B = 2, B != X."},
		{"p(X) :- e(X), 2 * X = B, X + 1 = A, not f(A, B).", "p(X)?", "q_f_p(X) :- e(X), 2 * X = B, X + 1 = A, not f(A, B)."},
		{"p(X) :- e(X), A + 1 = X + 2, A = X - 1.", "p(X)?", "q_f_p(X) :- e(X), A = X - 1, A + 1 = X + 2."},
		{"p(X) :- A <= X, e(X), A = -X, A >= B, B = A * A.", "p(X)?", "q_f_p(X) :- e(X), A = -X, A <= X, B = A * A, A >= B."},
		{"p(X) :- A = A + 0, e(X), A = X.", "p(X)?", "q_f_p(X) :- e(X), A = X, A = A + 0."},
		// two equations of one variable: the second is a test
		{"p(X) :- e(X), A = 1, A = X, A = 2.", "p(X)?", "q_f_p(X) :- e(X), A = 1, A = X, A = 2."},
		// without atoms
		{"p(X) :- X = Y, Y = 3.", "p(X)?", "q_f_p(X) :- Y = 3, X = Y."},
		{"p(X) :- X = Y, Y = 3.", "p(1)?", "q_b_p(X) :- X = Y, Y = 3."},
		{"p(X) :- X = Y, Z != Y, Y = 3, Z = X.", "p(1)?", "q_b_p(X) :- X = Y, Y = 3, Z = X, Z != Y."},
	} {
		wantAdorn(t, c[0], c[1], strings.Replace(c[1], "p(", c[2][:strings.Index(c[2], "(")+1], 1), "p "+c[2][2:3], c[2]+" "+c[2][:5]+"(V0) :- p(V0).")
	}
}

// P18.2: the chapter's examples, and atoms that are none as they may be.
func TestPattern(t *testing.T) {
	long := "X" + strings.Repeat("x", 500)
	for _, c := range []struct {
		terms []api.Term
		known []string
		want  string
	}{
		{[]api.Term{v("X"), {Val: num(3)}, v("_"), v("Y")}, []string{"Y", "Z"}, "fbfb"},
		{nil, nil, ""},
		{[]api.Term{}, []string{"X"}, ""},
		{[]api.Term{v("X"), v("X")}, nil, "ff"},
		{[]api.Term{v("X"), v("X"), v("Y")}, []string{"X", "X"}, "bbf"},
		{[]api.Term{v("_"), {Val: text("X")}, {Val: text("")}, v("_")}, []string{"_", "X", ""}, "fbbf"},
		{[]api.Term{{}, {Val: api.Value{Kind: 9}}, v("x"), v("y"), v("a b"), v("__")}, []string{"x", "a b"}, "bbbfbf"},
		{[]api.Term{{Var: "X", Val: num(1)}, {Var: "_", Val: num(1)}, {Var: "Y", Val: num(1)}}, []string{"Y", "_"}, "ffb"},
		{[]api.Term{v(long), v(long + "x")}, []string{long}, "bf"},
		{[]api.Term{v("X"), v("x")}, []string{"X"}, "bf"},
	} {
		for _, pred := range []string{"p", "", "q_p", "P", "not"} {
			if got := adorn.Pattern(atom(pred, c.terms...), c.known); got != c.want {
				t.Errorf("Pattern(%v, %q) = %q; want %q", c.terms, c.known, got, c.want)
			}
		}
	}
	if got, want := adorn.Pattern(atom("p", slices.Repeat(many(1000), 3)...), []string{"X999", "X0"}), strings.Repeat("b"+strings.Repeat("f", 998)+"b", 3); got != want {
		t.Errorf("Pattern of 3000 columns: %s", brief(got))
	}
}

// P18.3: whatever texts there are.
func TestName(t *testing.T) {
	for _, c := range [][3]string{
		{"anc", "bf", "q_bf_anc"}, {"p", "", "q__p"}, {"", "", "q__"}, {"", "b", "q_b_"}, {"q_b_p", "f", "q_f_q_b_p"}, {"P q", "x_\x00", "q_x_\x00_P q"},
		{strings.Repeat("p", 300), strings.Repeat("f", 300), "q_" + strings.Repeat("f", 300) + "_" + strings.Repeat("p", 300)},
	} {
		if got := adorn.Name(api.Adorned{Pred: c[0], Pattern: c[1]}); got != c[2] {
			t.Errorf("Name(%q, %q) = %q", c[0], c[1], got)
		}
	}
}

// P18.3: pairs of unlike predicates or patterns have unlike names, also where pieces of them look alike.
func TestNamesAreUnlike(t *testing.T) {
	seen := map[string]api.Adorned{}
	patterns := []string{""}
	for range 5 {
		for _, s := range slices.Clone(patterns) {
			patterns = append(patterns, s+"b", s+"f")
		}
		slices.Sort(patterns)
		patterns = slices.Compact(patterns)
	}
	for _, pattern := range patterns {
		for _, pred := range []string{"p", "b", "f", "bf", "b_p", "f_b_p", "bf_p", "fb_", "b_", "p_b"} {
			pair := api.Adorned{Pred: pred, Pattern: pattern}
			name := adorn.Name(pair)
			if other, ok := seen[name]; ok {
				t.Errorf("%v and %v have the name %s", pair, other, name)
			}
			seen[name] = pair
		}
	}
	if len(seen) != 63*10 {
		t.Errorf("%d names", len(seen))
	}
}

// P18.4: as many columns and variables as may be.
func TestWide(t *testing.T) {
	all := many(api.MaxWide)
	turned := slices.Clone(all)
	slices.Reverse(turned)
	rules := []api.Rule{{Pred: "p", Head: head(all...), Body: []api.Literal{pos("p", turned...), pos("e", all...)}}}
	q := atom("p", all...)
	q.Args[0] = api.Term{Val: num(1)}
	g, pairs := mustAdorn(t, rules, q)
	left, right := "b"+strings.Repeat("f", 23), strings.Repeat("f", 23)+"b"
	if showPairs(pairs) != "p "+left+", p "+right || g.Query.Pred != "q_"+left+"_p" || len(g.Rules) != 4 {
		t.Fatalf("pairs %s, query %s, %d rules", showPairs(pairs), g.Query.Pred, len(g.Rules))
	}
	if got := g.Rules[2].Body[0].Atom.Pred; got != "q_"+left+"_p" {
		t.Errorf("the second pair asks %s", got)
	}
	for i, r := range []api.Rule{g.Rules[1], g.Rules[3]} {
		if len(r.Head) != 24 || len(r.Body) != 1 || r.Head[23].Term.Var != "V23" || !slices.EqualFunc(r.Head, r.Body[0].Atom.Args, func(a api.Arg, x api.Term) bool { return a == api.Arg{Term: x} }) {
			t.Errorf("the last rule of pair %d: %v", i, r)
		}
	}
}

// P18.4: a chain of very many predicates, each asked by two patterns.
func TestManyPredicates(t *testing.T) {
	const n = 3000
	name := func(i int) string { return "p" + strconv.Itoa(i) }
	var rules []api.Rule
	for i := n - 1; i >= 0; i-- {
		rules = append(rules, api.Rule{Pred: name(i), Head: head(v("X")), Body: []api.Literal{pos(name(i+1), v("Y")), pos(name(i+1), v("X")), pos("e", v("X"))}})
	}
	g, pairs := mustAdorn(t, rules, atom("p0", api.Term{Val: num(1)}))
	if len(pairs) != 2*n-1 || len(g.Rules) != 2*len(pairs) {
		t.Fatalf("%d pairs, %d rules", len(pairs), len(g.Rules))
	}
	for i := 1; i < n; i++ {
		if f, b := pairs[2*i-1], pairs[2*i]; f != (api.Adorned{Pred: name(i), Pattern: "f"}) || b != (api.Adorned{Pred: name(i), Pattern: "b"}) {
			t.Fatalf("the pairs of %s: %v, %v", name(i), f, b)
		}
	}
}
