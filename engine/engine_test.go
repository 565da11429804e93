package engine_test

import (
	"fmt"
	"slices"
	"strings"
	"testing"

	"pedigree/api"
	"pedigree/engine"
	"pedigree/parse"
	"pedigree/value"
)

func num(n int64) api.Value { return api.Value{Kind: api.KNum, Num: n} }

func text(s string) api.Value { return api.Value{Kind: api.KText, Text: s} }

func fact(pred string, l ...api.Value) api.Fact { return api.Fact{Pred: pred, Args: l} }

// nums is a fact of numbers.
func nums(pred string, l ...int64) api.Fact {
	f := api.Fact{Pred: pred}
	for _, n := range l {
		f.Args = append(f.Args, num(n))
	}
	return f
}

func v(name string) api.Term { return api.Term{Var: name} }

func ex(t api.Term) api.Expr { return api.Expr{Term: t} }

func op(o api.Op, kids ...api.Expr) api.Expr { return api.Expr{Op: o, Kids: kids} }

func atom(pred string, l ...api.Term) api.Atom { return api.Atom{Pred: pred, Args: l} }

func pos(pred string, l ...api.Term) api.Literal {
	return api.Literal{Kind: api.LPos, Atom: atom(pred, l...)}
}

func not(pred string, l ...api.Term) api.Literal {
	return api.Literal{Kind: api.LNot, Atom: atom(pred, l...)}
}

func cmp(left api.Expr, rel api.Rel, right api.Expr) api.Literal {
	return api.Literal{Kind: api.LCmp, Rel: rel, Left: left, Right: right}
}

func head(l ...api.Term) []api.Arg {
	var out []api.Arg
	for _, t := range l {
		out = append(out, api.Arg{Term: t})
	}
	return out
}

// many are so many unlike variables.
func many(count int) []api.Term {
	var out []api.Term
	for i := range count {
		out = append(out, v(fmt.Sprint("V", i)))
	}
	return out
}

// wide is a fact of so many numbers.
func wide(pred string, columns int) api.Fact {
	f := api.Fact{Pred: pred}
	for i := range columns {
		f.Args = append(f.Args, num(int64(i)))
	}
	return f
}

func program(t *testing.T, source string) api.Program {
	t.Helper()
	p, fault := parse.Program(source)
	if fault != (api.Fault{}) {
		t.Fatalf("%s: %v", source, fault)
	}
	return p
}

func facts(t *testing.T, source string) []api.Fact {
	t.Helper()
	l, fault := parse.Facts(source)
	if fault != (api.Fault{}) {
		t.Fatalf("%s: %v", source, fault)
	}
	return l
}

func query(t *testing.T, source string) api.Atom {
	t.Helper()
	q, fault := parse.Query(source)
	if fault != (api.Fault{}) {
		t.Fatalf("%s: %v", source, fault)
	}
	return q
}

// showTuple writes values as a source has them.
func showTuple(l []api.Value) string {
	var out []string
	for _, v := range l {
		s, _ := value.Show(v)
		out = append(out, s)
	}
	return "(" + strings.Join(out, ", ") + ")"
}

func showTuples(l [][]api.Value) string {
	var out []string
	for _, x := range l {
		out = append(out, showTuple(x))
	}
	return strings.Join(out, " ")
}

// showFacts writes facts in one line.
func showFacts(l []api.Fact) string {
	var out []string
	for _, f := range l {
		out = append(out, f.Pred+showTuple(f.Args))
	}
	return strings.Join(out, " ")
}

// brief writes a thing for a message, which has no room for very long ones.
func brief(x any) string {
	out := fmt.Sprint(x)
	if len(out) > 800 {
		return out[:800] + " .."
	}
	return out
}

// ways are the four that there are.
func ways() []api.Way { return []api.Way{api.WayModel, api.WayMagic, api.WayTable, api.WayPar} }

// noWays are some that there are not.
func noWays() []api.Way { return []api.Way{4, -1, 5, 127, -128} }

func refusal(part api.Part, code api.Errno, at int) api.Refusal {
	return api.Refusal{Part: part, Code: code, At: at}
}

// fine is the zero Refusal.
func fine() api.Refusal { return api.Refusal{} }

// wantAnswer asks for the lines of an answer, by a way.
func wantAnswer(t *testing.T, p, l, q string, w api.Way, want []string) {
	t.Helper()
	if got, r := engine.Answer(p, l, q, w); r != fine() || !slices.Equal(got, want) {
		t.Errorf("Answer(%q, %q, %q, %d) = %s, %v; want %s", brief(p), brief(l), q, w, brief(got), r, brief(want))
	}
}

// wantRefused asks for the refusal of an answer, beside which nothing is told.
func wantRefused(t *testing.T, p, l, q string, w api.Way, want api.Refusal) {
	t.Helper()
	if got, r := engine.Answer(p, l, q, w); r != want || len(got) != 0 {
		t.Errorf("Answer(%q, %q, %q, %d) = %s, %v; want %v", brief(p), brief(l), q, w, brief(got), r, want)
	}
}

// wantExplained asks for the lines of an explanation.
func wantExplained(t *testing.T, p, q, want string) {
	t.Helper()
	got, r := engine.Explain(p, q)
	if r != fine() || strings.Join(got, "\n")+"\n" != want {
		t.Errorf("Explain(%q, %q) = %v\n%s\nwant\n%s", p, q, r, strings.Join(got, "\n"), want)
	}
}

const ancestors = "anc(X, Y) :- par(X, Y). anc(X, Y) :- par(X, Z), anc(Z, Y)."

// row is a program over facts, a query, and its answers' lines with a blank between each two.
type row struct{ program, facts, query, want string }

func wantRows(t *testing.T, l []row) {
	t.Helper()
	for _, x := range l {
		var want []string
		if x.want != "" {
			want = strings.SplitAfter(x.want, ". ")
		}
		for i, line := range want {
			want[i] = strings.TrimSuffix(line, " ")
		}
		for _, w := range ways() {
			wantAnswer(t, x.program, x.facts, x.query, w, want)
		}
	}
}

// P27.2, P27.3: the chapter's examples that are answered, each by all four ways.
func TestExamplesOfAnswers(t *testing.T) {
	wantRows(t, []row{
		{ancestors, "par(1, 2). par(2, 3). par(4, 1).", "anc(1, X)?", "anc(1, 2). anc(1, 3)."},
		{ancestors, "par(1, 2).", "anc(X, X)?", ""},
		{ancestors, "par(1, 2).", "nobody(X)?", ""},
		{ancestors, "par(1, 2).", "anc(b, X)?", ""},
		{ancestors, "par(1, 2).", "anc(_, 2)?", "anc(1, 2)."},
	})
}

// P27.1 to P27.3: the chapter's examples that are refused, each by all four ways.
func TestExamplesOfRefusals(t *testing.T) {
	for _, x := range []struct {
		program, facts, query string
		want                  api.Refusal
	}{
		{"p(X) :- e(X", "e(1", "p(X)?", refusal(api.PartProgram, api.ErrSyntax, 11)},
		{ancestors, "par(1, X).", "anc(X)", refusal(api.PartFacts, api.ErrGround, 7)},
		{ancestors, "", "anc(X)", refusal(api.PartQuery, api.ErrSyntax, 6)},
		{ancestors, "", "anc(X)?", refusal(api.PartQuery, api.ErrArity, 0)},
		{ancestors, "", "q_b_anc(X)?", refusal(api.PartQuery, api.ErrReserved, 0)},
		{"p(X) :- e(X), X > 1.", "e(2). e(a).", "p(X)?", refusal(api.PartFacts, api.ErrType, 1)},
		{"p(X) :- e(X), not p(X).", "e(1, 2).", "p(X)?", refusal(api.PartFacts, api.ErrArity, 0)},
		{"p(X) :- e(X), not p(X).", "e(1).", "p(X)?", refusal(api.PartProgram, api.ErrNegCycle, 0)},
		{"p(1). p(a).", "", "p(X)?", refusal(api.PartProgram, api.ErrType, 1)},
	} {
		for _, w := range ways() {
			wantRefused(t, x.program, x.facts, x.query, w, x.want)
		}
	}
	wantRefused(t, "p(", "", "", 4, refusal(api.PartNone, api.ErrArg, 0))
}

// P27.5: the chapter's examples, whole.
func TestExamplesOfExplain(t *testing.T) {
	wantExplained(t, ancestors+" anc(X, Y) :- par(X, Y), par(Y, _).", "anc(1, X)?", `# ahead: 0 rules
# plain: 3 rules
anc(X, Y) :- par(X, Y).
anc(X, Y) :- par(X, Z), anc(Z, Y).
anc(X, Y) :- par(X, Y), par(Y, _).
# pruned: 2 rules
anc(X, Y) :- par(X, Y).
anc(X, Y) :- par(X, Z), anc(Z, Y).
# adorned: 3 rules, 1 pairs
q_bf_anc(X, Y) :- par(X, Y).
q_bf_anc(X, Y) :- par(X, Z), q_bf_anc(Z, Y).
q_bf_anc(V0, V1) :- anc(V0, V1).
# adorned query: q_bf_anc(1, X)?
# magic: 5 rules, 1 seeds
q_bf_anc(X, Y) :- q_m_bf_anc(X), par(X, Y).
q_s_1_0(X, Z) :- q_m_bf_anc(X), par(X, Z).
q_m_bf_anc(Z) :- q_s_1_0(X, Z).
q_bf_anc(X, Y) :- q_s_1_0(X, Z), q_bf_anc(Z, Y).
q_bf_anc(V0, V1) :- q_m_bf_anc(V0), anc(V0, V1).
q_m_bf_anc(1).
# magic query: q_bf_anc(1, X)?
`)
	wantExplained(t, "n(count()) :- e(X).", "e(X)?", `# ahead: 1 rules
n(count()) :- e(X).
# plain: 0 rules
# pruned: 0 rules
# adorned: 0 rules, 0 pairs
# adorned query: e(X)?
# magic: 0 rules, 0 seeds
# magic query: e(X)?
`)
}

// P27.5: what is ahead and what is plain, what is pruned away; several pairs, a seed with no values and with several, texts that need quotes.
func TestExplain(t *testing.T) {
	wantExplained(t, `q(X) :- e(X, _). p(X) :- q(X), not f(X), 1 < 2. f(X) :- q(X), X > "A b". p(Y) :- q(X), Y = X & "!". r(X) :- s(X), r(X). s(X) :- e(_, X), not f(X).`, `s("A b")?`, `# ahead: 4 rules
q(X) :- e(X, _).
p(X) :- q(X), not f(X), 1 < 2.
f(X) :- q(X), X > "A b".
p(Y) :- q(X), Y = X & "!".
# plain: 2 rules
r(X) :- s(X), r(X).
s(X) :- e(_, X), not f(X).
# pruned: 1 rules
s(X) :- e(_, X), not f(X).
# adorned: 2 rules, 1 pairs
q_b_s(X) :- not f(X), e(_, X).
q_b_s(V0) :- s(V0).
# adorned query: q_b_s("A b")?
# magic: 2 rules, 1 seeds
q_b_s(X) :- q_m_b_s(X), not f(X), e(_, X).
q_b_s(V0) :- q_m_b_s(V0), s(V0).
q_m_b_s("A b").
# magic query: q_b_s("A b")?
`)
	wantExplained(t, "p(X) :- a(X, Y), r(Y, Z), b(Z), r(Z, X). r(X, Y) :- e(X, Y).", "p(X)?", `# ahead: 0 rules
# plain: 2 rules
p(X) :- a(X, Y), r(Y, Z), b(Z), r(Z, X).
r(X, Y) :- e(X, Y).
# pruned: 2 rules
p(X) :- a(X, Y), r(Y, Z), b(Z), r(Z, X).
r(X, Y) :- e(X, Y).
# adorned: 6 rules, 3 pairs
q_f_p(X) :- a(X, Y), q_bf_r(Y, Z), b(Z), q_bb_r(Z, X).
q_f_p(V0) :- p(V0).
q_bf_r(X, Y) :- e(X, Y).
q_bf_r(V0, V1) :- r(V0, V1).
q_bb_r(X, Y) :- e(X, Y).
q_bb_r(V0, V1) :- r(V0, V1).
# adorned query: q_f_p(X)?
# magic: 10 rules, 1 seeds
q_s_0_0(X, Y) :- q_m_f_p, a(X, Y).
q_m_bf_r(Y) :- q_s_0_0(X, Y).
q_s_0_1(X, Z) :- q_s_0_0(X, Y), q_bf_r(Y, Z), b(Z).
q_m_bb_r(Z, X) :- q_s_0_1(X, Z).
q_f_p(X) :- q_s_0_1(X, Z), q_bb_r(Z, X).
q_f_p(V0) :- q_m_f_p, p(V0).
q_bf_r(X, Y) :- q_m_bf_r(X), e(X, Y).
q_bf_r(V0, V1) :- q_m_bf_r(V0), r(V0, V1).
q_bb_r(X, Y) :- q_m_bb_r(X, Y), e(X, Y).
q_bb_r(V0, V1) :- q_m_bb_r(V0, V1), r(V0, V1).
q_m_f_p.
# magic query: q_f_p(X)?
`)
	wantExplained(t, "p :- e(X), p.\n# a remark\n p(  ) :-f( _ ) .", " p( ) ? ", `# ahead: 0 rules
# plain: 2 rules
p :- e(X), p.
p :- f(_).
# pruned: 2 rules
p :- e(X), p.
p :- f(_).
# adorned: 3 rules, 1 pairs
q__p :- e(X), q__p.
q__p :- f(_).
q__p :- p.
# adorned query: q__p?
# magic: 5 rules, 1 seeds
q_s_0_0 :- q_m__p, e(X).
q_m__p :- q_s_0_0.
q__p :- q_s_0_0, q__p.
q__p :- q_m__p, f(_).
q__p :- q_m__p, p.
q_m__p.
# magic query: q__p?
`)
	wantExplained(t, "t(X, Y, 2) :- e(X, Y).", "t(-1, b, Z)?", `# ahead: 0 rules
# plain: 1 rules
t(X, Y, 2) :- e(X, Y).
# pruned: 1 rules
t(X, Y, 2) :- e(X, Y).
# adorned: 2 rules, 1 pairs
q_bbf_t(X, Y, 2) :- e(X, Y).
q_bbf_t(V0, V1, V2) :- t(V0, V1, V2).
# adorned query: q_bbf_t(-1, b, Z)?
# magic: 2 rules, 1 seeds
q_bbf_t(X, Y, 2) :- q_m_bbf_t(X, Y), e(X, Y).
q_bbf_t(V0, V1, V2) :- q_m_bbf_t(V0, V1), t(V0, V1, V2).
q_m_bbf_t(-1, b).
# magic query: q_bbf_t(-1, b, Z)?
`)
	wantExplained(t, "", "p(_, X, X, \"\")?", `# ahead: 0 rules
# plain: 0 rules
# pruned: 0 rules
# adorned: 0 rules, 0 pairs
# adorned query: p(_, X, X, "")?
# magic: 0 rules, 0 seeds
# magic query: p(_, X, X, "")?
`)
	wantExplained(t, "p(X) :- e(X), 1 > 2.", "p(1)?", `# ahead: 0 rules
# plain: 1 rules
p(X) :- e(X), 1 > 2.
# pruned: 0 rules
# adorned: 0 rules, 0 pairs
# adorned query: p(1)?
# magic: 0 rules, 0 seeds
# magic query: p(1)?
`)
}

// P0.1, P27.2, P27.3: the document's examples of the whole, by all four ways.
func TestExamplesOfTheWhole(t *testing.T) {
	const anc = "anc(X, Y) :- par(X, Y). anc(X, Z) :- par(X, Y), anc(Y, Z)."
	const pars = "par(ann, bob). par(bob, cy). par(cy, dan). par(eve, dan)."
	const made = "next(X, Y) :- n(X), Y = X + 1. half(X, Y) :- n(X), Y = 10 / X."
	const numbers = "n(9223372036854775807). n(0)."
	wantRows(t, []row{
		{anc, pars, "anc(bob, X)?", "anc(bob, cy). anc(bob, dan)."},
		{"reach(X, Y) :- edge(X, Y). reach(X, Z) :- reach(X, Y), reach(Y, Z).", "edge(1, 2). edge(2, 1).", "reach(X, X)?", "reach(1, 1). reach(2, 2)."},
		{"alive(X) :- node(X), not dead(X). dead(X) :- hit(X). dead(Y) :- dead(X), near(X, Y).", "node(1). node(2). node(3). hit(1). near(1, 2).", "alive(X)?", "alive(3)."},
		{"sales(D, count(), sum(S), max(S)) :- sold(D, P, S).", "sold(east, 1, 10). sold(east, 2, 10). sold(west, 3, -4).", "sales(D, N, S, M)?", "sales(east, 2, 20, 10). sales(west, 1, -4, -4)."},
		{made, numbers, "next(X, Y)?", "next(0, 1). next(9223372036854775807, -9223372036854775808)."},
		{made, numbers, "half(X, Y)?", "half(9223372036854775807, 0)."},
		{`shout(X, Y) :- w(X), Y = X & "!", len(Y) <= 3.`, `w(ab). w(abc). w("\xc3\xa9").`, "shout(X, Y)?", `shout(ab, "ab!"). shout("\xc3\xa9", "\xc3\xa9!").`},
		{anc, pars, "ghost(X)?", ""},
		{anc, pars, "par(eve, dan)?", "par(eve, dan)."},
		{anc, pars, "anc(_, _)?", "anc(ann, bob). anc(ann, cy). anc(ann, dan). anc(bob, cy). anc(bob, dan). anc(cy, dan). anc(eve, dan)."},
	})
}

// P27.2, P27.3: what is plain stands on what is ahead, and given facts of what has rules count; answers in order, each once, each as a source has it.
func TestAnswers(t *testing.T) {
	const tower = "a(X) :- e(X). b(X) :- e(X), not a(X). b(9). c(count()) :- b(X). d(Y) :- c(X), Y = X + 1. d(X) :- d(X), e(X). f(X) :- d(X), b(Y), X < Y."
	const given = "e(1). a(5). b(6). c(7). d(8). f(-3). z(1, 2)."
	wantRows(t, []row{
		{"", "", "p?", ""},
		{"", "p.", "p?", "p."},
		{"", "p(2). p(1). p(2). p(-1). p(b). p(\"B\"). p(10).", "p(X)?", `p(-1). p(1). p(2). p(10). p("B"). p(b).`},
		{"", `e("A b", -1). e("", 2). e("not", 3). e("\n", 4).`, "e(X, Y)?", `e("", 2). e("\n", 4). e("A b", -1). e("not", 3).`},
		{"", "e(1, 1, 2). e(1, 2, 2). e(2, 2, 2). e(3, 3, 1).", "e(X, X, Y)?", "e(1, 1, 2). e(2, 2, 2). e(3, 3, 1)."},
		{"", "e(1, 1, 2). e(1, 2, 2). e(2, 2, 2). e(3, 3, 1).", "e(X, _, X)?", "e(2, 2, 2)."},
		{"", "e(1, 1, 2). e(1, 2, 2). e(2, 2, 2). e(3, 3, 1).", "e(_, _, 2)?", "e(1, 1, 2). e(1, 2, 2). e(2, 2, 2)."},
		{"p :- e(_).", "", "p?", ""},
		{"p :- e(_).", "e(1). e(2).", "p()?", "p."},
		{"p :- not q.", "", "p?", "p."},
		{"p(X, X) :- e(X).", "e(1). p(2, 3).", "p(X, Y)?", "p(1, 1). p(2, 3)."},
		{tower, given, "a(X)?", "a(1). a(5)."},
		{tower, given, "b(X)?", "b(6). b(9)."},
		{tower, given, "c(X)?", "c(2). c(7)."},
		{tower, given, "d(X)?", "d(3). d(8)."},
		{tower, given, "f(X)?", "f(-3). f(3). f(8)."},
		{tower, given, "f(8)?", "f(8)."},
		{tower, given, "f(7)?", ""},
		{tower, given, "z(X, 2)?", "z(1, 2)."},
		{ancestors, "anc(5, 6). par(4, 5).", "anc(4, X)?", "anc(4, 5). anc(4, 6)."},
		{"r(Z) :- W = Z + 1, r(W), e(Z, Y).", "r(1). e(0, 0).", "r(0)?", "r(0)."},
		{"same(X, Y) :- up(X, U), same(U, W), down(W, Y), U != Y. same(X, X) :- person(X).", "person(1). person(2). up(3, 1). down(1, 4). up(4, 2). down(1, 1).", "same(3, Y)?", "same(3, 4)."},
		{"n(X, count()) :- e(X, Y). big(X) :- n(X, N), N > 1. top(X) :- big(X), not small(X). small(X) :- e(X, 0).", "e(a, 1). e(a, 2). e(b, 0). e(b, 1). e(c, 5).", "top(X)?", "top(a)."},
		{"next(Y) :- e(X), Y = X + 1. both(X) :- e(X), next(X).", "e(1). e(2). e(4).", "both(X)?", "both(2)."},
		{"p(X) :- e(X), X > 1.", "e(1). e(2).", "p(a)?", ""},
		{"p(X) :- e(X), X > 1.", "e(1). e(2).", "e(a)?", ""},
		{"p(X) :- e(X), 1 > 2. p(X) :- p(X), e(X).", "e(1). p(1). p(2).", "p(X)?", "p(1). p(2)."},
	})
}

// P27.3: only tokens count: the texts may be written otherwise.
func TestTextsAsTheyAreWritten(t *testing.T) {
	for _, w := range ways() {
		wantAnswer(t, "# the rules\nanc(A,B):-par(A,B).\n\nanc(A , C) :- par(A , B) , anc(B , C) .", "par( \"ann\",bob ).par(bob,cy).", "\tanc ( ann , _ ) ?\n", w, []string{"anc(ann, bob).", "anc(ann, cy)."})
	}
}
