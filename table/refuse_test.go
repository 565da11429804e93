package table_test

import (
	"slices"
	"strings"
	"testing"

	"pedigree/api"
	"pedigree/table"
)

// wantCode: the error of Solve, beside which nothing else is told.
func wantCode(t *testing.T, rules []api.Rule, l []api.Fact, q api.Atom, code api.Errno) {
	t.Helper()
	answers, tables, err := table.Solve(rules, l, q)
	if err != code {
		t.Errorf("%s: %d; want %d", called(rules, l, q), err, code)
	}
	if err != api.OK && len(answers)+len(tables) > 0 {
		t.Errorf("%s tells beside %d: %v, %v", called(rules, l, q), err, answers, tables)
	}
}

// P22.1: each error, of sources; the chapter's examples among them.
func TestErrors(t *testing.T) {
	for _, c := range []struct {
		rules, facts, query string
		code                api.Errno
	}{
		{"p(Y) :- e(X).", "", "p(X)?", api.ErrSafe},
		{"p(X) :- e(X), not f(Y).", "", "e(X)?", api.ErrSafe},
		{"p(X) :- X = Y, Y = X.", "z.", "z?", api.ErrSafe},
		{"p(X) :- p(X, X).", "", "z?", api.ErrArity},
		{"p(X) :- e(X). p :- e.", "", "z?", api.ErrArity},
		{ancestors, "anc(1).", "anc(1, X)?", api.ErrArity},
		{ancestors, "par(1, 2). par(1, 2, 3).", "anc(1, X)?", api.ErrArity},
		{ancestors, "z(1, 2). z(1, 2, 3).", "anc(1, X)?", api.ErrArity},
		{ancestors, "", "anc(1)?", api.ErrArity},
		{ancestors, "", "par(X)?", api.ErrArity},
		{ancestors, "", "anc?", api.ErrArity},
		{ancestors, "par(1, 2).", "par(X)?", api.ErrArity},
		{ancestors, "z(1, 2).", "z(X)?", api.ErrArity},
		{ancestors, "z(1, 2).", "z(X, Y)?", api.OK},
		{"", "z(1, 2).", "z?", api.ErrArity},
		{"p(X) :- e(X), not f(X).", "", "f?", api.ErrArity},
		{"p(X) :- e(X), not f(X).", "", "f(X)?", api.OK},
		{"q_a :- b.", "", "b?", api.ErrReserved},
		{"a :- q_b.", "", "a?", api.ErrReserved},
		{"a :- b, not q_b.", "", "a?", api.ErrReserved},
		{"a :- b. c :- d. q_.", "", "a?", api.ErrReserved},
		{ancestors, "", "q_x?", api.ErrReserved},
		{ancestors, "q_x(1).", "anc(1, X)?", api.ErrReserved},
		{ancestors, "par(1, 2). q_.", "par(1, X)?", api.ErrReserved},
		{ancestors, "q_m_bf_anc(1).", "anc(1, X)?", api.ErrReserved},
		{"", "q_x.", "z?", api.ErrReserved},
		{"", "", "q_(X)?", api.ErrReserved},
		{"q(X) :- qq(X). qu_e(X) :- q(X).", "qq(1). q(2). quq_(3).", "q(X)?", api.OK},
		{"p(X) :- e(X), not p(X).", "", "p(X)?", api.ErrPlain},
		{"p(X) :- e(X), not r(X). r(X) :- f(X).", "f(1).", "z?", api.ErrPlain},
		{"p(count()) :- e(_).", "", "e(X)?", api.ErrPlain},
		{"p(Y) :- e(X), Y = X + 1.", "", "p(1)?", api.ErrPlain},
		{"p(Y) :- e(X), Y = X + 1.", "e(1).", "z?", api.ErrPlain},
		{"p(Y) :- e(X), Y = X.", "", "p(X)?", api.OK},
		{"p(X) :- e(X), Y = X + 1, not f(Y).", "e(1).", "p(X)?", api.OK},
	} {
		wantCode(t, rulesOf(t, c.rules), factsOf(t, c.facts), queryOf(t, c.query), c.code)
	}
}

// P22.1: of several errors the first one.
func TestWhichErrorComesFirst(t *testing.T) {
	rule := func(source string) api.Rule { return rulesOf(t, source)[0] }
	fact := func(source string) []api.Fact { return factsOf(t, source) }
	bad, safe := api.Rule{Pred: "P"}, rule("s(Y) :- e(X).")
	clash, kept := rule("e(X, Y) :- f(X, Y)."), rule("q_k(X) :- e(X).")
	agg, made, neg := rule("agg(count()) :- e(X)."), rule("made(Y) :- e(X), Y = X + 1."), rule("neg(X) :- e(X), not neg(X).")
	long, fine := rule(strings.Repeat("m", 116)+"(X) :- e(X)."), rule("fine(X) :- e(X), not g(X).")
	broken, other := atom("e", v("x"), v("Y")), atom("e", v("X"), v("Y"))
	reserved, asked := atom("q_e", v("X")), atom(long.Pred, v("X"))
	wrong := []api.Fact{{Pred: "e", Args: []api.Value{{Kind: 7}}}}
	for _, c := range []struct {
		rules []api.Rule
		facts []api.Fact
		query api.Atom
		code  api.Errno
	}{
		{[]api.Rule{fine, bad, safe, clash, kept, agg, long}, wrong, broken, api.ErrTerm},
		{[]api.Rule{fine, safe, bad, clash, kept, agg, long}, wrong, broken, api.ErrSafe},
		{[]api.Rule{clash, kept, agg, long, fine}, slices.Concat(wrong, fact("e. q_e.")), broken, api.ErrValue},
		{[]api.Rule{clash, kept, agg, long, fine}, fact("q_e."), broken, api.ErrArity},
		{[]api.Rule{kept, agg, long, fine}, fact("e(1, 2). q_e."), broken, api.ErrArity},
		{[]api.Rule{kept, agg, long, fine}, fact("z. z(1). q_e."), broken, api.ErrArity},
		{[]api.Rule{kept, agg, long, fine}, fact("q_e."), broken, api.ErrTerm},
		{[]api.Rule{kept, agg, long, fine}, fact("q_e."), other, api.ErrArity},
		{[]api.Rule{agg, long, fine}, fact("z(1). q_e."), atom("z"), api.ErrArity},
		{[]api.Rule{agg, long, fine}, fact("q_e."), reserved, api.ErrArity},
		{[]api.Rule{made, long, kept, fine}, nil, atom("q_k"), api.ErrArity},
		{[]api.Rule{made, long, kept, fine}, nil, asked, api.ErrReserved},
		{[]api.Rule{made, long, fine}, fact("q_e."), asked, api.ErrReserved},
		{[]api.Rule{neg, long, fine}, fact("e(1)."), reserved, api.ErrReserved},
		{[]api.Rule{neg, long, fine}, nil, asked, api.ErrPlain},
		{[]api.Rule{made, long, fine}, fact("e(1)."), asked, api.ErrPlain},
		{[]api.Rule{agg, long, fine}, nil, asked, api.ErrPlain},
		{[]api.Rule{long, fine}, fact("e(1)."), asked, api.OK},
		{[]api.Rule{long, fine}, fact("q_e."), asked, api.ErrReserved},
		{[]api.Rule{long, fine}, wrong, asked, api.ErrValue},
		{[]api.Rule{long, fine}, nil, other, api.ErrArity},
		{[]api.Rule{long, fine}, nil, broken, api.ErrTerm},
		{[]api.Rule{long, fine}, fact("e(1)."), atom("fine", v("X")), api.OK},
		{nil, wrong, broken, api.ErrValue},
		{nil, fact("q_e."), broken, api.ErrTerm},
		{nil, nil, other, api.OK},
	} {
		wantCode(t, c.rules, c.facts, c.query, c.code)
	}
}

// P22.1: the longest names and bodies that may be are none too long here: no rules are made.
func TestTheLongestNamesAndBodies(t *testing.T) {
	for _, columns := range []int{0, 1, api.MaxWide} {
		name := strings.Repeat("m", api.MaxLong)
		rules := []api.Rule{{Pred: name, Head: head(many(columns)...), Body: slices.Repeat([]api.Literal{pos("e", many(columns)...)}, api.MaxBody)}}
		given := api.Fact{Pred: "e", Args: slices.Repeat([]api.Value{num(7)}, columns)}
		q := atom(name, many(columns)...)
		answers, tables := mustSolve(t, rules, []api.Fact{given}, q)
		if len(answers) != 1 || !slices.Equal(answers[0], given.Args) || len(tables) != 1 || tables[0].Goal.Pred != name {
			t.Errorf("of %d columns: %v, %v", columns, answers, tables)
		}
		rules[0].Body[15] = pos(name, many(columns)...)
		if answers, tables := mustSolve(t, rules, []api.Fact{given}, q); len(answers) != 0 || len(tables) != min(2, columns+1) {
			t.Errorf("of %d columns: %v, %v", columns, answers, tables)
		}
	}
}

// noRules are rules by hand that are none as they may be.
func noRules() []api.Rule {
	one := []api.Literal{pos("e", v("X"))}
	with := func(l api.Literal) []api.Literal { return append(slices.Clone(one), l) }
	deep := ex(v("X"))
	for range 8 {
		deep = op(api.OpNeg, deep)
	}
	ring := make([]api.Expr, 2)
	ring[0], ring[1] = api.Expr{Op: api.OpAdd, Kids: ring}, api.Expr{Op: api.OpAdd, Kids: ring}
	return []api.Rule{
		{}, {Pred: "P"}, {Pred: "not"}, {Pred: "p q"}, {Pred: "p" + strings.Repeat("a", 120)},
		{Pred: "p", Head: head(v("_"))}, {Pred: "p", Head: head(v("x"))}, {Pred: "p", Head: head(api.Term{})}, {Pred: "p", Head: head(many(25)...)},
		{Pred: "p", Head: head(api.Term{Var: "X", Val: num(1)}), Body: one},
		{Pred: "p", Head: []api.Arg{{Agg: api.AggCount, Term: v("X")}}, Body: one},
		{Pred: "p", Head: []api.Arg{{Agg: api.AggSum}}, Body: one}, {Pred: "p", Head: []api.Arg{{Agg: 5, Term: v("X")}}, Body: one}, {Pred: "p", Head: []api.Arg{{Agg: -1, Term: v("X")}}, Body: one},
		{Pred: "p", Body: []api.Literal{{}}}, {Pred: "p", Body: []api.Literal{{Kind: 9}}}, {Pred: "p", Body: []api.Literal{pos("")}},
		{Pred: "p", Body: []api.Literal{pos("e", many(25)...)}}, {Pred: "p", Body: slices.Repeat([]api.Literal{pos("e")}, 17)},
		{Pred: "p", Body: []api.Literal{cmp(ex(v("_")), api.RelEq, ex(v("X")))}},
		{Pred: "p", Body: with(cmp(deep, api.RelEq, ex(v("X"))))}, {Pred: "p", Body: with(cmp(ex(v("X")), api.RelEq, ring[0]))},
		{Pred: "p", Body: with(cmp(ex(v("X")), api.RelNone, ex(v("X"))))}, {Pred: "p", Body: with(cmp(ex(v("X")), 7, ex(v("X"))))},
		{Pred: "p", Body: with(cmp(op(11, ex(v("X"))), api.RelEq, ex(v("X"))))}, {Pred: "p", Body: with(cmp(op(api.OpAdd, ex(v("X"))), api.RelEq, ex(v("X"))))},
		{Pred: "p", Body: []api.Literal{pos("e", many(24)...), pos("e", v("W"))}},
	}
}

// P22.1, R1: rules by hand that are none as they may be, by themselves, ahead of others and behind them.
func TestNoRules(t *testing.T) {
	fine := rulesOf(t, "r(X) :- f(X), not g(X).")[0]
	for i, r := range noRules() {
		for _, rules := range [][]api.Rule{{r}, {r, fine}, {fine, r}, {r, r}} {
			for _, q := range []api.Atom{atom("r", v("X")), atom("p"), atom("P"), atom("q_p"), {}} {
				if answers, tables, err := table.Solve(rules, []api.Fact{{Pred: "F"}}, q); err != api.ErrTerm || len(answers)+len(tables) > 0 {
					t.Errorf("Solve with the rule %d of noRules: %d", i, err)
				}
			}
		}
	}
}

// P22.1, R1: queries by hand that are none as they may be.
func TestNoQueries(t *testing.T) {
	rules := rulesOf(t, "p(X) :- e(X).")
	for _, q := range []api.Atom{
		{}, atom("P"), atom("P", v("X")), atom("", v("X")), atom("not", v("X")), atom("p q", v("X")), atom("_"), atom("p"+strings.Repeat("a", 120), v("X")),
		atom("p", v("x")), atom("p", api.Term{}), atom("p", v("X Y")), atom("p", api.Term{Var: "X", Val: num(1)}), atom("p", api.Term{Var: "_", Val: num(1)}),
		atom("p", api.Term{Val: api.Value{Kind: 3, Num: 1}}), atom("p", api.Term{Val: api.Value{Kind: api.KNum, Num: 1, Text: "a"}}), atom("p", api.Term{Val: text(strings.Repeat("a", 201))}),
		atom("p", v("X"+strings.Repeat("a", 120))), atom("p", many(25)...), atom("z", slices.Repeat([]api.Term{v("_")}, 25)...), atom("q_p", v("x")),
	} {
		wantCode(t, rules, nil, q, api.ErrTerm)
		wantCode(t, nil, nil, q, api.ErrTerm)
		wantCode(t, rules, factsOf(t, "q_e(1)."), q, api.ErrTerm)
	}
	wantCode(t, nil, nil, atom("z", slices.Repeat([]api.Term{v("_")}, 24)...), api.OK)
	wantCode(t, rules, nil, atom("p", api.Term{Val: text(strings.Repeat("a", 200))}), api.OK)
}

// P22.1, R1: facts by hand that are none as they may be.
func TestNoFacts(t *testing.T) {
	rules, fine := rulesOf(t, "p(X) :- e(X)."), factsOf(t, "e(1).")
	for _, f := range []api.Fact{
		{}, {Pred: "E"}, {Pred: "e e"}, {Pred: "not"}, {Pred: "e" + strings.Repeat("a", 120)}, {Pred: "e", Args: make([]api.Value, 1)},
		{Pred: "e", Args: []api.Value{{Kind: 3}}}, {Pred: "e", Args: []api.Value{{Kind: api.KText, Num: 1}}}, {Pred: "e", Args: []api.Value{text(strings.Repeat("a", 201))}},
		{Pred: "z", Args: slices.Repeat([]api.Value{num(1)}, 25)}, {Pred: "q_", Args: []api.Value{{}}},
	} {
		for _, l := range [][]api.Fact{{f}, {f, fine[0]}, {fine[0], f}} {
			wantCode(t, rules, l, atom("p", v("X")), api.ErrValue)
			wantCode(t, nil, l, atom("P"), api.ErrValue)
		}
	}
	wantCode(t, rules, []api.Fact{{Pred: "z", Args: slices.Repeat([]api.Value{num(1)}, 24)}, {Pred: "e", Args: []api.Value{text(strings.Repeat("a", 200))}}}, atom("p", v("X")), api.OK)
}

// R4: empty lists and nil mean the same.
func TestEmptyLists(t *testing.T) {
	bare := []api.Rule{{Pred: "p", Body: []api.Literal{pos("p"), {Kind: api.LCmp, Rel: api.RelEq, Left: ex(n(1)), Right: ex(n(1))}}}}
	empty := []api.Rule{{Pred: "p", Head: []api.Arg{}, Body: []api.Literal{
		{Kind: api.LPos, Atom: api.Atom{Pred: "p", Args: []api.Term{}}, Left: api.Expr{Kids: []api.Expr{}}, Right: api.Expr{Kids: []api.Expr{}}},
		{Kind: api.LCmp, Atom: api.Atom{Args: []api.Term{}}, Rel: api.RelEq, Left: api.Expr{Term: n(1), Kids: []api.Expr{}}, Right: ex(n(1))},
	}}}
	for _, rules := range [][]api.Rule{bare, empty} {
		for _, q := range []api.Atom{{Pred: "p"}, {Pred: "p", Args: []api.Term{}}} {
			for _, l := range [][]api.Fact{{{Pred: "p"}}, {{Pred: "p", Args: []api.Value{}}}, {{Pred: "p"}, {Pred: "p", Args: []api.Value{}}}} {
				answers, tables := mustSolve(t, rules, l, q)
				if len(answers) != 1 || len(answers[0]) != 0 || showTables(tables) != "p: p.\n" {
					t.Errorf("Solve: %v, %s", answers, showTables(tables))
				}
			}
		}
	}
	for _, rules := range [][]api.Rule{nil, {}} {
		for _, l := range [][]api.Fact{nil, {}} {
			if answers, tables := mustSolve(t, rules, l, api.Atom{Pred: "p", Args: []api.Term{}}); len(answers)+len(tables) > 0 {
				t.Errorf("Solve without rules: %v, %v", answers, tables)
			}
		}
	}
}
