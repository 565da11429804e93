package adorn_test

import (
	"slices"
	"strings"
	"testing"

	"pedigree/adorn"
	"pedigree/api"
)

// wantCode: the error, beside which nothing else is told.
func wantCode(t *testing.T, rules []api.Rule, q api.Atom, code api.Errno) {
	t.Helper()
	g, pairs, err := adorn.Adorn(rules, q)
	if err != code {
		t.Errorf("Adorn(%s, %s): %d; want %d", brief(showRules(rules)), brief(showAtom(q)), err, code)
	}
	if err != api.OK && (len(g.Rules)+len(g.Seeds)+len(g.Query.Args)+len(pairs) > 0 || g.Query.Pred != "") {
		t.Errorf("Adorn(%s, %s) tells beside %d:\n%s", brief(showRules(rules)), brief(showAtom(q)), err, brief(told(g, pairs)))
	}
}

// P18.1: each error, of sources; the chapter's examples among them.
func TestErrors(t *testing.T) {
	for _, c := range []struct {
		rules, query string
		code         api.Errno
	}{
		{"p(Y) :- e(X).", "p(X)?", api.ErrSafe},
		{"p(X) :- e(X), not f(Y).", "e(X)?", api.ErrSafe},
		{"p(X) :- X = Y, Y = X.", "z?", api.ErrSafe},
		{"p(X) :- p(X, X).", "z?", api.ErrArity},
		{"p(X) :- e(X). p :- e.", "z?", api.ErrArity},
		{ancestors, "anc(X)?", api.ErrArity},
		{ancestors, "par(X)?", api.ErrArity},
		{ancestors, "par(X, Y, Z)?", api.ErrArity},
		{ancestors, "anc?", api.ErrArity},
		{"p(X) :- e(X), not f(X).", "f?", api.ErrArity},
		{"p(X) :- e(X), not f(X).", "f(X)?", api.OK},
		{"q_a :- b.", "b?", api.ErrReserved},
		{"a :- q_b.", "a?", api.ErrReserved},
		{"a :- b, not q_b.", "a?", api.ErrReserved},
		{"a :- b. c :- d. q_.", "a?", api.ErrReserved},
		{ancestors, "q_x?", api.ErrReserved},
		{"", "q_x?", api.ErrReserved},
		{"", "q_(X)?", api.ErrReserved},
		{"q(X) :- qq(X). qu_e(X) :- q(X).", "q(X)?", api.OK},
		{"p(X) :- e(X), not p(X).", "p(X)?", api.ErrPlain},
		{"p(X) :- e(X), not r(X). r(X) :- f(X).", "z?", api.ErrPlain},
		{"p(count()) :- e(_).", "e(X)?", api.ErrPlain},
		{"p(Y) :- e(X), Y = X + 1.", "p(X)?", api.ErrPlain},
		{"p(Y) :- e(X), Y = X + 1.", "z?", api.ErrPlain},
		{"p(Y) :- e(X), Y = X.", "p(X)?", api.OK},
		{"p(X) :- e(X), Y = X + 1, not f(Y).", "p(X)?", api.OK},
	} {
		wantCode(t, rulesOf(t, c.rules), queryOf(t, c.query), c.code)
	}
}

// P18.1: of several errors the first one.
func TestWhichErrorComesFirst(t *testing.T) {
	rule := func(source string) api.Rule { return rulesOf(t, source)[0] }
	bad, safe := api.Rule{Pred: "P"}, rule("s(Y) :- e(X).")
	clash, kept := rule("e(X, Y) :- f(X, Y)."), rule("q_k(X) :- e(X).")
	agg, made, neg := rule("agg(count()) :- e(X)."), rule("made(Y) :- e(X), Y = X + 1."), rule("neg(X) :- e(X), not neg(X).")
	long, fine := rule(strings.Repeat("m", 118)+"(X) :- e(X)."), rule("fine(X) :- e(X), not g(X).")
	broken, other := atom("e", v("x"), v("Y")), atom("e", v("X"), v("Y"))
	reserved, asked := atom("q_e", v("X")), atom(long.Pred, v("X"))
	for _, c := range []struct {
		rules []api.Rule
		query api.Atom
		code  api.Errno
	}{
		{[]api.Rule{fine, bad, safe, clash, kept, agg, long}, broken, api.ErrTerm},
		{[]api.Rule{fine, safe, bad, clash, kept, agg, long}, broken, api.ErrSafe},
		{[]api.Rule{long, agg, kept, clash, fine, safe}, broken, api.ErrSafe},
		{[]api.Rule{long, agg, kept, clash, fine}, broken, api.ErrArity},
		{[]api.Rule{long, agg, kept, fine}, broken, api.ErrTerm},
		{[]api.Rule{long, agg, kept, fine}, other, api.ErrArity},
		{[]api.Rule{long, made, kept, fine}, atom("q_k"), api.ErrArity},
		{[]api.Rule{long, made, kept, fine}, asked, api.ErrReserved},
		{[]api.Rule{long, neg, fine}, reserved, api.ErrReserved},
		{[]api.Rule{long, neg, fine}, asked, api.ErrPlain},
		{[]api.Rule{long, made, fine}, asked, api.ErrPlain},
		{[]api.Rule{long, agg, fine}, asked, api.ErrPlain},
		{[]api.Rule{long, fine}, asked, api.ErrSize},
		{[]api.Rule{long, fine}, reserved, api.ErrReserved},
		{[]api.Rule{long, fine}, other, api.ErrArity},
		{[]api.Rule{long, fine}, broken, api.ErrTerm},
		{[]api.Rule{long, fine}, atom("fine", v("X")), api.OK},
		{[]api.Rule{bad}, atom("q_e"), api.ErrTerm},
		{nil, broken, api.ErrTerm},
		{nil, other, api.OK},
	} {
		wantCode(t, c.rules, c.query, c.code)
	}
}

// P18.1: a pair's name has at most MaxLong bytes: two for q_, one for the second _, and as many as there are columns and letters.
func TestLongNames(t *testing.T) {
	for columns, room := range map[int]int{0: 117, 1: 116, 2: 115, 8: 109, 24: 93} {
		for bytes := room - 1; bytes <= room+3 && bytes <= api.MaxLong; bytes++ {
			name, code := strings.Repeat("m", bytes), api.OK
			if bytes > room {
				code = api.ErrSize
			}
			rules := []api.Rule{{Pred: name, Head: head(many(columns)...), Body: []api.Literal{pos("e", many(columns)...)}}}
			q := atom(name, many(columns)...)
			wantCode(t, rules, q, code)
			// behind another pair that is met first; or not asked at all
			up := append(slices.Clone(rules), api.Rule{Pred: "p", Body: []api.Literal{pos("e", many(columns)...), pos(name, slices.Repeat([]api.Term{v("_")}, columns)...)}})
			wantCode(t, up, atom("p"), code)
			wantCode(t, append(up, api.Rule{Pred: "r", Body: []api.Literal{pos("e", many(columns)...)}}), atom("r"), api.OK)
			// without rules it stays as it is
			wantCode(t, up[1:], atom("p"), api.OK)
			wantCode(t, up[1:], q, api.OK)
		}
	}
	name := strings.Repeat("m", api.MaxLong)
	g, pairs := mustAdorn(t, nil, atom(name))
	if g.Query.Pred != name || len(pairs) != 0 {
		t.Errorf("a query of 120 bytes without rules: %s", told(g, pairs))
	}
}

// noRules are rules by hand that are none as they may be.
func noRules() []api.Rule {
	one := []api.Literal{pos("e", v("X"))}
	with := func(l api.Literal) []api.Literal { return append(slices.Clone(one), l) }
	deep := ex(v("X"))
	for range 8 {
		deep = op(api.OpNeg, deep)
	}
	ring := make([]api.Expr, 2)
	ring[0], ring[1] = api.Expr{Op: api.OpAdd, Kids: ring}, api.Expr{Op: api.OpAdd, Kids: ring}
	return []api.Rule{
		{}, {Pred: "P"}, {Pred: "not"}, {Pred: "p q"}, {Pred: "p" + strings.Repeat("a", 120)},
		{Pred: "p", Head: head(v("_"))}, {Pred: "p", Head: head(v("x"))}, {Pred: "p", Head: head(api.Term{})}, {Pred: "p", Head: head(many(25)...)},
		{Pred: "p", Head: head(api.Term{Var: "X", Val: num(1)}), Body: one},
		{Pred: "p", Head: []api.Arg{{Agg: api.AggCount, Term: v("X")}}, Body: one},
		{Pred: "p", Head: []api.Arg{{Agg: api.AggSum}}, Body: one}, {Pred: "p", Head: []api.Arg{{Agg: 5, Term: v("X")}}, Body: one}, {Pred: "p", Head: []api.Arg{{Agg: -1, Term: v("X")}}, Body: one},
		{Pred: "p", Body: []api.Literal{{}}}, {Pred: "p", Body: []api.Literal{{Kind: 9}}}, {Pred: "p", Body: []api.Literal{pos("")}},
		{Pred: "p", Body: []api.Literal{pos("e", many(25)...)}}, {Pred: "p", Body: slices.Repeat([]api.Literal{pos("e")}, 17)},
		{Pred: "p", Body: []api.Literal{cmp(ex(v("_")), api.RelEq, ex(v("X")))}},
		{Pred: "p", Body: with(cmp(deep, api.RelEq, ex(v("X"))))}, {Pred: "p", Body: with(cmp(ex(v("X")), api.RelEq, ring[0]))},
		{Pred: "p", Body: with(cmp(ex(v("X")), api.RelNone, ex(v("X"))))}, {Pred: "p", Body: with(cmp(ex(v("X")), 7, ex(v("X"))))},
		{Pred: "p", Body: with(cmp(op(11, ex(v("X"))), api.RelEq, ex(v("X"))))}, {Pred: "p", Body: with(cmp(op(api.OpAdd, ex(v("X"))), api.RelEq, ex(v("X"))))},
		{Pred: "p", Body: []api.Literal{pos("e", many(24)...), pos("e", v("W"))}},
	}
}

// P18.1, R1: rules by hand that are none as they may be, by themselves, ahead of others and behind them.
func TestNoRules(t *testing.T) {
	fine := rulesOf(t, "r(X) :- f(X), not g(X).")[0]
	for i, r := range noRules() {
		for _, rules := range [][]api.Rule{{r}, {r, fine}, {fine, r}, {r, r}} {
			for _, q := range []api.Atom{atom("r", v("X")), atom("p"), atom("P"), atom("q_p"), {}} {
				if g, pairs, err := adorn.Adorn(rules, q); err != api.ErrTerm || len(g.Rules) > 0 || len(pairs) > 0 || g.Query.Pred != "" {
					t.Errorf("with the rule %d of noRules: %d", i, err)
				}
			}
		}
	}
}

// P18.1, R1: queries by hand that are none as they may be.
func TestNoQueries(t *testing.T) {
	rules := rulesOf(t, "p(X) :- e(X).")
	for _, q := range []api.Atom{
		{}, atom("P"), atom("P", v("X")), atom("", v("X")), atom("not", v("X")), atom("p q", v("X")), atom("_"), atom("p"+strings.Repeat("a", 120), v("X")),
		atom("p", v("x")), atom("p", api.Term{}), atom("p", v("X Y")), atom("p", api.Term{Var: "X", Val: num(1)}), atom("p", api.Term{Var: "_", Val: num(1)}),
		atom("p", api.Term{Val: api.Value{Kind: 3, Num: 1}}), atom("p", api.Term{Val: api.Value{Kind: api.KNum, Num: 1, Text: "a"}}), atom("p", api.Term{Val: text(strings.Repeat("a", 201))}),
		atom("p", v("X"+strings.Repeat("a", 120))), atom("p", many(25)...), atom("z", slices.Repeat([]api.Term{v("_")}, 25)...), atom("q_p", v("x")),
	} {
		wantCode(t, rules, q, api.ErrTerm)
		wantCode(t, nil, q, api.ErrTerm)
	}
	wantCode(t, nil, atom("z", slices.Repeat([]api.Term{v("_")}, 24)...), api.OK)
	wantCode(t, rules, atom("p", api.Term{Val: text(strings.Repeat("a", 200))}), api.OK)
}

// R4: empty lists and nil mean the same.
func TestEmptyLists(t *testing.T) {
	bare := []api.Rule{{Pred: "p", Body: []api.Literal{pos("p"), {Kind: api.LCmp, Rel: api.RelEq, Left: ex(api.Term{Val: num(1)}), Right: ex(api.Term{Val: num(1)})}}}}
	empty := []api.Rule{{Pred: "p", Head: []api.Arg{}, Body: []api.Literal{
		{Kind: api.LPos, Atom: api.Atom{Pred: "p", Args: []api.Term{}}, Left: api.Expr{Kids: []api.Expr{}}, Right: api.Expr{Kids: []api.Expr{}}},
		{Kind: api.LCmp, Atom: api.Atom{Args: []api.Term{}}, Rel: api.RelEq, Left: api.Expr{Term: api.Term{Val: num(1)}, Kids: []api.Expr{}}, Right: ex(api.Term{Val: num(1)})},
	}}}
	want := "p \nq__p :- 1 = 1, q__p.\nq__p :- p.\nq__p?"
	for _, rules := range [][]api.Rule{bare, empty} {
		for _, q := range []api.Atom{{Pred: "p"}, {Pred: "p", Args: []api.Term{}}} {
			g, pairs := mustAdorn(t, rules, q)
			if got := told(g, pairs); got != want {
				t.Errorf("Adorn: %s", got)
			}
		}
	}
	for _, rules := range [][]api.Rule{nil, {}} {
		g, pairs := mustAdorn(t, rules, api.Atom{Pred: "p", Args: []api.Term{}})
		if got := told(g, pairs); got != "\np?" {
			t.Errorf("Adorn without rules: %s", got)
		}
	}
	if got := adorn.Pattern(atom("p", v("X")), []string{}); got != "f" {
		t.Errorf("Pattern: %s", got)
	}
}
