package magic_test

import (
	"slices"
	"strings"
	"testing"

	"pedigree/api"
	"pedigree/magic"
)

// wantRewriteCode: the error of Rewrite, beside which nothing else is told.
func wantRewriteCode(t *testing.T, rules []api.Rule, q api.Atom, code api.Errno) {
	t.Helper()
	g, err := magic.Rewrite(rules, q)
	if err != code {
		t.Errorf("Rewrite(%s, %s): %d; want %d", brief(showRules(rules)), brief(showAtom(q)), err, code)
	}
	if err != api.OK && (len(g.Rules)+len(g.Seeds)+len(g.Query.Args) > 0 || g.Query.Pred != "") {
		t.Errorf("Rewrite(%s, %s) tells beside %d:\n%s", brief(showRules(rules)), brief(showAtom(q)), err, brief(told(g)))
	}
}

// wantCode: the error of Solve, beside which nothing else is told; without facts that of Rewrite too.
func wantCode(t *testing.T, rules []api.Rule, l []api.Fact, q api.Atom, code api.Errno) {
	t.Helper()
	answers, own, err := magic.Solve(rules, l, q)
	if err != code {
		t.Errorf("Solve(%s, %s, %s): %d; want %d", brief(showRules(rules)), brief(showFacts(l)), brief(showAtom(q)), err, code)
	}
	if err != api.OK && len(answers)+len(own) > 0 {
		t.Errorf("Solve(%s, %s, %s) tells beside %d: %v, %v", brief(showRules(rules)), brief(showFacts(l)), brief(showAtom(q)), err, answers, own)
	}
	if len(l) == 0 {
		wantRewriteCode(t, rules, q, code)
	}
}

// P19.1: each error, of sources; the chapter's examples among them.
func TestErrors(t *testing.T) {
	for _, c := range []struct {
		rules, facts, query string
		code                api.Errno
	}{
		{"p(Y) :- e(X).", "", "p(X)?", api.ErrSafe},
		{"p(X) :- e(X), not f(Y).", "", "e(X)?", api.ErrSafe},
		{"p(X) :- X = Y, Y = X.", "z.", "z?", api.ErrSafe},
		{"p(X) :- p(X, X).", "", "z?", api.ErrArity},
		{"p(X) :- e(X). p :- e.", "", "z?", api.ErrArity},
		{ancestors, "anc(1).", "anc(1, X)?", api.ErrArity},
		{ancestors, "par(1, 2). par(1, 2, 3).", "anc(1, X)?", api.ErrArity},
		{ancestors, "z(1, 2). z(1, 2, 3).", "anc(1, X)?", api.ErrArity},
		{ancestors, "", "anc(1)?", api.ErrArity},
		{ancestors, "", "par(X)?", api.ErrArity},
		{ancestors, "", "anc?", api.ErrArity},
		{ancestors, "par(1, 2).", "par(X)?", api.ErrArity},
		{ancestors, "z(1, 2).", "z(X)?", api.ErrArity},
		{ancestors, "z(1, 2).", "z(X, Y)?", api.OK},
		{"", "z(1, 2).", "z?", api.ErrArity},
		{"p(X) :- e(X), not f(X).", "", "f?", api.ErrArity},
		{"p(X) :- e(X), not f(X).", "", "f(X)?", api.OK},
		{"q_a :- b.", "", "b?", api.ErrReserved},
		{"a :- q_b.", "", "a?", api.ErrReserved},
		{"a :- b, not q_b.", "", "a?", api.ErrReserved},
		{"a :- b. c :- d. q_.", "", "a?", api.ErrReserved},
		{ancestors, "", "q_x?", api.ErrReserved},
		{ancestors, "q_x(1).", "anc(1, X)?", api.ErrReserved},
		{ancestors, "par(1, 2). q_.", "par(1, X)?", api.ErrReserved},
		{ancestors, "q_m_bf_anc(1).", "anc(1, X)?", api.ErrReserved},
		{"", "q_x.", "z?", api.ErrReserved},
		{"", "", "q_(X)?", api.ErrReserved},
		{"q(X) :- qq(X). qu_e(X) :- q(X).", "qq(1). q(2). quq_(3).", "q(X)?", api.OK},
		{"p(X) :- e(X), not p(X).", "", "p(X)?", api.ErrPlain},
		{"p(X) :- e(X), not r(X). r(X) :- f(X).", "f(1).", "z?", api.ErrPlain},
		{"p(count()) :- e(_).", "", "e(X)?", api.ErrPlain},
		{"p(Y) :- e(X), Y = X + 1.", "", "p(1)?", api.ErrPlain},
		{"p(Y) :- e(X), Y = X + 1.", "e(1).", "z?", api.ErrPlain},
		{"p(Y) :- e(X), Y = X.", "", "p(X)?", api.OK},
		{"p(X) :- e(X), Y = X + 1, not f(Y).", "e(1).", "p(X)?", api.OK},
	} {
		wantCode(t, rulesOf(t, c.rules), factsOf(t, c.facts), queryOf(t, c.query), c.code)
	}
}

// P19.1: of several errors the first one.
func TestWhichErrorComesFirst(t *testing.T) {
	rule := func(source string) api.Rule { return rulesOf(t, source)[0] }
	fact := func(source string) []api.Fact { return factsOf(t, source) }
	bad, safe := api.Rule{Pred: "P"}, rule("s(Y) :- e(X).")
	clash, kept := rule("e(X, Y) :- f(X, Y)."), rule("q_k(X) :- e(X).")
	agg, made, neg := rule("agg(count()) :- e(X)."), rule("made(Y) :- e(X), Y = X + 1."), rule("neg(X) :- e(X), not neg(X).")
	long, fine := rule(strings.Repeat("m", 116)+"(X) :- e(X)."), rule("fine(X) :- e(X), not g(X).")
	broken, other := atom("e", v("x"), v("Y")), atom("e", v("X"), v("Y"))
	reserved, asked := atom("q_e", v("X")), atom(long.Pred, v("X"))
	wrong := []api.Fact{{Pred: "e", Args: []api.Value{{Kind: 7}}}}
	for _, c := range []struct {
		rules []api.Rule
		facts []api.Fact
		query api.Atom
		code  api.Errno
	}{
		{[]api.Rule{fine, bad, safe, clash, kept, agg, long}, wrong, broken, api.ErrTerm},
		{[]api.Rule{fine, safe, bad, clash, kept, agg, long}, wrong, broken, api.ErrSafe},
		{[]api.Rule{clash, kept, agg, long, fine}, slices.Concat(wrong, fact("e. q_e.")), broken, api.ErrValue},
		{[]api.Rule{clash, kept, agg, long, fine}, fact("q_e."), broken, api.ErrArity},
		{[]api.Rule{kept, agg, long, fine}, fact("e(1, 2). q_e."), broken, api.ErrArity},
		{[]api.Rule{kept, agg, long, fine}, fact("z. z(1). q_e."), broken, api.ErrArity},
		{[]api.Rule{kept, agg, long, fine}, fact("q_e."), broken, api.ErrTerm},
		{[]api.Rule{kept, agg, long, fine}, fact("q_e."), other, api.ErrArity},
		{[]api.Rule{agg, long, fine}, fact("z(1). q_e."), atom("z"), api.ErrArity},
		{[]api.Rule{agg, long, fine}, fact("q_e."), reserved, api.ErrArity},
		{[]api.Rule{made, long, kept, fine}, nil, atom("q_k"), api.ErrArity},
		{[]api.Rule{made, long, kept, fine}, nil, asked, api.ErrReserved},
		{[]api.Rule{made, long, fine}, fact("q_e."), asked, api.ErrReserved},
		{[]api.Rule{neg, long, fine}, fact("e(1)."), reserved, api.ErrReserved},
		{[]api.Rule{neg, long, fine}, nil, asked, api.ErrPlain},
		{[]api.Rule{made, long, fine}, fact("e(1)."), asked, api.ErrPlain},
		{[]api.Rule{agg, long, fine}, nil, asked, api.ErrPlain},
		{[]api.Rule{long, fine}, fact("e(1)."), asked, api.ErrSize},
		{[]api.Rule{long, fine}, fact("q_e."), asked, api.ErrReserved},
		{[]api.Rule{long, fine}, wrong, asked, api.ErrValue},
		{[]api.Rule{long, fine}, nil, other, api.ErrArity},
		{[]api.Rule{long, fine}, nil, broken, api.ErrTerm},
		{[]api.Rule{long, fine}, fact("e(1)."), atom("fine", v("X")), api.OK},
		{nil, wrong, broken, api.ErrValue},
		{nil, fact("q_e."), broken, api.ErrTerm},
		{nil, nil, other, api.OK},
	} {
		wantCode(t, c.rules, c.facts, c.query, c.code)
	}
}

// P19.1: a magic predicate's name has at most MaxLong bytes: four for q_m_, one for the _ behind the pattern, and as many as there are columns and letters.
func TestLongNames(t *testing.T) {
	for columns, room := range map[int]int{0: 115, 1: 114, 2: 113, 8: 107, 24: 91} {
		for bytes := room - 1; bytes <= room+4 && bytes <= api.MaxLong; bytes++ {
			name, code := strings.Repeat("m", bytes), api.OK
			if bytes > room {
				code = api.ErrSize
			}
			rules := []api.Rule{{Pred: name, Head: head(many(columns)...), Body: []api.Literal{pos("e", many(columns)...)}}}
			q := atom(name, many(columns)...)
			wantCode(t, rules, nil, q, code)
			// behind another pair that is met first; or not asked at all
			up := append(slices.Clone(rules), api.Rule{Pred: "p", Body: []api.Literal{pos("e", many(columns)...), pos(name, slices.Repeat([]api.Term{v("_")}, columns)...)}})
			wantCode(t, up, nil, atom("p"), code)
			wantCode(t, append(up, api.Rule{Pred: "r", Body: []api.Literal{pos("e", many(columns)...)}}), nil, atom("r"), api.OK)
			// without rules it stays as it is
			wantCode(t, up[1:], nil, atom("p"), api.OK)
			wantCode(t, up[1:], nil, q, api.OK)
		}
	}
}

// P19.1: a body has at most MaxBody literals, with the magic atom or what stands for the literals ahead.
func TestLongBodies(t *testing.T) {
	for size := 12; size <= api.MaxBody; size++ {
		plain := slices.Repeat([]api.Literal{pos("e", v("X"))}, size)
		code := api.OK
		if size == api.MaxBody {
			code = api.ErrSize
		}
		wantCode(t, []api.Rule{{Pred: "p", Head: head(v("X")), Body: plain}}, nil, atom("p", v("X")), code)
		for at := range size {
			body := slices.Clone(plain)
			body[at] = pos("p", v("X"))
			code := api.OK
			if size == api.MaxBody && at == 0 {
				code = api.ErrSize // behind what stands for the magic atom come all 16
			}
			wantCode(t, []api.Rule{{Pred: "p", Head: head(v("X")), Body: body}}, nil, atom("p", v("X")), code)
		}
	}
	// sixteen literals of a rule that is not asked
	rules := []api.Rule{{Pred: "p", Head: head(v("X")), Body: slices.Repeat([]api.Literal{pos("e", v("X"))}, 16)}}
	wantCode(t, append(rules, rulesOf(t, "r(X) :- e(X).")...), factsOf(t, "e(1)."), atom("r", v("X")), api.OK)
	wantCode(t, rules, factsOf(t, "e(1)."), atom("e", v("X")), api.OK)
	// and of one that is asked by another, behind rules that are fine
	rules = append(rulesOf(t, "r(X) :- e(X). r(X) :- p(X)."), rules...)
	wantCode(t, rules, factsOf(t, "e(1)."), atom("r", v("X")), api.ErrSize)
}

// noRules are rules by hand that are none as they may be.
func noRules() []api.Rule {
	one := []api.Literal{pos("e", v("X"))}
	with := func(l api.Literal) []api.Literal { return append(slices.Clone(one), l) }
	deep := ex(v("X"))
	for range 8 {
		deep = op(api.OpNeg, deep)
	}
	ring := make([]api.Expr, 2)
	ring[0], ring[1] = api.Expr{Op: api.OpAdd, Kids: ring}, api.Expr{Op: api.OpAdd, Kids: ring}
	return []api.Rule{
		{}, {Pred: "P"}, {Pred: "not"}, {Pred: "p q"}, {Pred: "p" + strings.Repeat("a", 120)},
		{Pred: "p", Head: head(v("_"))}, {Pred: "p", Head: head(v("x"))}, {Pred: "p", Head: head(api.Term{})}, {Pred: "p", Head: head(many(25)...)},
		{Pred: "p", Head: head(api.Term{Var: "X", Val: num(1)}), Body: one},
		{Pred: "p", Head: []api.Arg{{Agg: api.AggCount, Term: v("X")}}, Body: one},
		{Pred: "p", Head: []api.Arg{{Agg: api.AggSum}}, Body: one}, {Pred: "p", Head: []api.Arg{{Agg: 5, Term: v("X")}}, Body: one}, {Pred: "p", Head: []api.Arg{{Agg: -1, Term: v("X")}}, Body: one},
		{Pred: "p", Body: []api.Literal{{}}}, {Pred: "p", Body: []api.Literal{{Kind: 9}}}, {Pred: "p", Body: []api.Literal{pos("")}},
		{Pred: "p", Body: []api.Literal{pos("e", many(25)...)}}, {Pred: "p", Body: slices.Repeat([]api.Literal{pos("e")}, 17)},
		{Pred: "p", Body: []api.Literal{cmp(ex(v("_")), api.RelEq, ex(v("X")))}},
		{Pred: "p", Body: with(cmp(deep, api.RelEq, ex(v("X"))))}, {Pred: "p", Body: with(cmp(ex(v("X")), api.RelEq, ring[0]))},
		{Pred: "p", Body: with(cmp(ex(v("X")), api.RelNone, ex(v("X"))))}, {Pred: "p", Body: with(cmp(ex(v("X")), 7, ex(v("X"))))},
		{Pred: "p", Body: with(cmp(op(11, ex(v("X"))), api.RelEq, ex(v("X"))))}, {Pred: "p", Body: with(cmp(op(api.OpAdd, ex(v("X"))), api.RelEq, ex(v("X"))))},
		{Pred: "p", Body: []api.Literal{pos("e", many(24)...), pos("e", v("W"))}},
	}
}

// P19.1, R1: rules by hand that are none as they may be, by themselves, ahead of others and behind them.
func TestNoRules(t *testing.T) {
	fine := rulesOf(t, "r(X) :- f(X), not g(X).")[0]
	for i, r := range noRules() {
		for _, rules := range [][]api.Rule{{r}, {r, fine}, {fine, r}, {r, r}} {
			for _, q := range []api.Atom{atom("r", v("X")), atom("p"), atom("P"), atom("q_p"), {}} {
				if g, err := magic.Rewrite(rules, q); err != api.ErrTerm || len(g.Rules) > 0 || len(g.Seeds) > 0 || g.Query.Pred != "" {
					t.Errorf("Rewrite with the rule %d of noRules: %d", i, err)
				}
				if answers, own, err := magic.Solve(rules, []api.Fact{{Pred: "F"}}, q); err != api.ErrTerm || len(answers)+len(own) > 0 {
					t.Errorf("Solve with the rule %d of noRules: %d", i, err)
				}
			}
		}
	}
}

// P19.1, R1: queries by hand that are none as they may be.
func TestNoQueries(t *testing.T) {
	rules := rulesOf(t, "p(X) :- e(X).")
	for _, q := range []api.Atom{
		{}, atom("P"), atom("P", v("X")), atom("", v("X")), atom("not", v("X")), atom("p q", v("X")), atom("_"), atom("p"+strings.Repeat("a", 120), v("X")),
		atom("p", v("x")), atom("p", api.Term{}), atom("p", v("X Y")), atom("p", api.Term{Var: "X", Val: num(1)}), atom("p", api.Term{Var: "_", Val: num(1)}),
		atom("p", api.Term{Val: api.Value{Kind: 3, Num: 1}}), atom("p", api.Term{Val: api.Value{Kind: api.KNum, Num: 1, Text: "a"}}), atom("p", api.Term{Val: text(strings.Repeat("a", 201))}),
		atom("p", v("X"+strings.Repeat("a", 120))), atom("p", many(25)...), atom("z", slices.Repeat([]api.Term{v("_")}, 25)...), atom("q_p", v("x")),
	} {
		wantCode(t, rules, nil, q, api.ErrTerm)
		wantCode(t, nil, nil, q, api.ErrTerm)
		wantCode(t, rules, factsOf(t, "q_e(1)."), q, api.ErrTerm)
	}
	wantCode(t, nil, nil, atom("z", slices.Repeat([]api.Term{v("_")}, 24)...), api.OK)
	wantCode(t, rules, nil, atom("p", api.Term{Val: text(strings.Repeat("a", 200))}), api.OK)
}

// P19.1, R1: facts by hand that are none as they may be.
func TestNoFacts(t *testing.T) {
	rules, fine := rulesOf(t, "p(X) :- e(X)."), factsOf(t, "e(1).")
	for _, f := range []api.Fact{
		{}, {Pred: "E"}, {Pred: "e e"}, {Pred: "not"}, {Pred: "e" + strings.Repeat("a", 120)}, {Pred: "e", Args: make([]api.Value, 1)},
		{Pred: "e", Args: []api.Value{{Kind: 3}}}, {Pred: "e", Args: []api.Value{{Kind: api.KText, Num: 1}}}, {Pred: "e", Args: []api.Value{text(strings.Repeat("a", 201))}},
		{Pred: "z", Args: slices.Repeat([]api.Value{num(1)}, 25)}, {Pred: "q_", Args: []api.Value{{}}},
	} {
		for _, l := range [][]api.Fact{{f}, {f, fine[0]}, {fine[0], f}} {
			wantCode(t, rules, l, atom("p", v("X")), api.ErrValue)
			wantCode(t, nil, l, atom("P"), api.ErrValue)
		}
	}
	wantCode(t, rules, []api.Fact{{Pred: "z", Args: slices.Repeat([]api.Value{num(1)}, 24)}, {Pred: "e", Args: []api.Value{text(strings.Repeat("a", 200))}}}, atom("p", v("X")), api.OK)
}

// R4: empty lists and nil mean the same.
func TestEmptyLists(t *testing.T) {
	bare := []api.Rule{{Pred: "p", Body: []api.Literal{pos("p"), {Kind: api.LCmp, Rel: api.RelEq, Left: ex(api.Term{Val: num(1)}), Right: ex(api.Term{Val: num(1)})}}}}
	empty := []api.Rule{{Pred: "p", Head: []api.Arg{}, Body: []api.Literal{
		{Kind: api.LPos, Atom: api.Atom{Pred: "p", Args: []api.Term{}}, Left: api.Expr{Kids: []api.Expr{}}, Right: api.Expr{Kids: []api.Expr{}}},
		{Kind: api.LCmp, Atom: api.Atom{Args: []api.Term{}}, Rel: api.RelEq, Left: api.Expr{Term: api.Term{Val: num(1)}, Kids: []api.Expr{}}, Right: ex(api.Term{Val: num(1)})},
	}}}
	want := "q_s_0_0 :- q_m__p, 1 = 1.\nq_m__p :- q_s_0_0.\nq__p :- q_s_0_0, q__p.\nq__p :- q_m__p, p.\nq__p?\nq_m__p.\n"
	for _, rules := range [][]api.Rule{bare, empty} {
		for _, q := range []api.Atom{{Pred: "p"}, {Pred: "p", Args: []api.Term{}}} {
			if got := told(mustRewrite(t, rules, q)); got != want {
				t.Errorf("Rewrite: %s", got)
			}
			for _, l := range [][]api.Fact{{{Pred: "p"}}, {{Pred: "p", Args: []api.Value{}}}, {{Pred: "p"}, {Pred: "p", Args: []api.Value{}}}} {
				answers, own := mustSolve(t, rules, l, q)
				if len(answers) != 1 || len(answers[0]) != 0 || showFacts(own) != "q__p.\nq_m__p.\nq_s_0_0.\n" {
					t.Errorf("Solve: %v, %s", answers, showFacts(own))
				}
			}
		}
	}
	for _, rules := range [][]api.Rule{nil, {}} {
		for _, l := range [][]api.Fact{nil, {}} {
			if got := told(mustRewrite(t, rules, api.Atom{Pred: "p", Args: []api.Term{}})); got != "p?\n" {
				t.Errorf("Rewrite without rules: %s", got)
			}
			if answers, own := mustSolve(t, rules, l, atom("p")); len(answers)+len(own) > 0 {
				t.Errorf("Solve without rules: %v, %v", answers, own)
			}
		}
	}
}
