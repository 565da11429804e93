package subsume_test

import (
	"slices"
	"strings"
	"testing"

	"pedigree/api"
	"pedigree/subsume"
)

// wantPruneCode: the error of Prune, beside which nothing else is told.
func wantPruneCode(t *testing.T, rules []api.Rule, q api.Atom, code api.Errno) {
	t.Helper()
	l, err := subsume.Prune(rules, q)
	if err != code {
		t.Errorf("Prune(%s, %s): %d; want %d", brief(showRules(rules...)), brief(showAtom(q)), err, code)
	}
	if err != api.OK && len(l) > 0 {
		t.Errorf("Prune(%s, %s) tells beside %d:\n%s", brief(showRules(rules...)), brief(showAtom(q)), err, brief(showRules(l...)))
	}
}

// wantNoUse: of a rule that is not of use nothing is told, and it subsumes nothing, nor does anything subsume it.
func wantNoUse(t *testing.T, r api.Rule) {
	t.Helper()
	if out, ok := subsume.Tidy(r); ok || !isZero(out) {
		t.Errorf("Tidy(%s): %v, %v", brief(showRules(r)), out, ok)
	}
	fine := ruleOf(t, "p :- e(X).")
	for _, c := range [][2]api.Rule{{r, r}, {r, fine}, {fine, r}, {r, ruleOf(t, "p.")}, {ruleOf(t, "p."), r}, {ruleOf(t, "p(count())."), r}, {r, ruleOf(t, "p(count()).")}} {
		if l, ok := subsume.Subsumes(c[0], c[1]); ok || len(l) > 0 {
			t.Errorf("Subsumes(%s, %s): %v, %v", brief(showRules(c[0])), brief(showRules(c[1])), l, ok)
		}
	}
}

// noRules are rules by hand that are none as they may be.
func noRules() []api.Rule {
	one := []api.Literal{pos("e", v("X"))}
	with := func(l api.Literal) []api.Literal { return append(slices.Clone(one), l) }
	deep := ex(v("X"))
	for range 8 {
		deep = op(api.OpNeg, deep)
	}
	ring := make([]api.Expr, 2)
	ring[0], ring[1] = api.Expr{Op: api.OpAdd, Kids: ring}, api.Expr{Op: api.OpAdd, Kids: ring}
	return []api.Rule{
		{}, {Pred: "P"}, {Pred: "not"}, {Pred: "p q"}, {Pred: "p" + strings.Repeat("a", 120)},
		{Pred: "p", Head: head(v("_"))}, {Pred: "p", Head: head(v("x"))}, {Pred: "p", Head: head(api.Term{})}, {Pred: "p", Head: head(many(25)...)},
		{Pred: "p", Head: head(api.Term{Var: "X", Val: num(1)}), Body: one},
		{Pred: "p", Head: []api.Arg{{Agg: api.AggCount, Term: v("X")}}, Body: one},
		{Pred: "p", Head: []api.Arg{{Agg: api.AggSum}}, Body: one}, {Pred: "p", Head: []api.Arg{{Agg: 5, Term: v("X")}}, Body: one}, {Pred: "p", Head: []api.Arg{{Agg: -1, Term: v("X")}}, Body: one},
		{Pred: "p", Body: []api.Literal{{}}}, {Pred: "p", Body: []api.Literal{{Kind: 9}}}, {Pred: "p", Body: []api.Literal{pos("")}}, {Pred: "p", Body: []api.Literal{{Kind: -1, Atom: atom("e")}}},
		{Pred: "p", Body: []api.Literal{pos("e", many(25)...)}}, {Pred: "p", Body: slices.Repeat([]api.Literal{pos("e")}, 17)},
		{Pred: "p", Body: []api.Literal{cmp(ex(v("_")), api.RelEq, ex(v("X")))}}, {Pred: "p", Body: []api.Literal{cmp(ex(v("_")), api.RelEq, ex(v("_")))}},
		{Pred: "p", Body: with(cmp(deep, api.RelEq, ex(v("X"))))}, {Pred: "p", Body: with(cmp(ex(v("X")), api.RelEq, ring[0]))},
		{Pred: "p", Body: with(cmp(ex(v("X")), api.RelNone, ex(v("X"))))}, {Pred: "p", Body: with(cmp(ex(v("X")), 7, ex(v("X"))))},
		{Pred: "p", Body: with(cmp(op(11, ex(v("X"))), api.RelEq, ex(v("X"))))}, {Pred: "p", Body: with(cmp(op(api.OpAdd, ex(v("X"))), api.RelEq, ex(v("X"))))},
		{Pred: "p", Body: []api.Literal{pos("e", many(24)...), pos("e", v("W"))}},
		{Pred: "p", Body: with(api.Literal{Kind: api.LNot, Atom: atom("e", v("X")), Rel: api.RelEq})}, {Pred: "p", Body: with(api.Literal{Kind: api.LCmp, Atom: atom("e"), Rel: api.RelEq, Left: ex(v("X")), Right: ex(v("X"))})},
	}
}

// P20.1, P20.4, R1: rules by hand that are none as they may be.
func TestNoRules(t *testing.T) {
	fine := ruleOf(t, "r(X) :- f(X), not g(X).")
	for _, r := range noRules() {
		wantNoUse(t, r)
		for _, rules := range [][]api.Rule{{r}, {r, fine}, {fine, r}, {r, r}} {
			for _, q := range []api.Atom{atom("r", v("X")), atom("p"), atom("P"), {}} {
				wantPruneCode(t, rules, q, api.ErrTerm)
			}
		}
	}
}

// P20.1: rules that are not safe, also where what is not limited stands in what would go.
func TestNotSafe(t *testing.T) {
	for _, source := range []string{
		"p(X).", "p(X) :- e(Y).", "p :- not e(X).", "p :- X = X.", "p :- X = X, 1 = 2.", "p :- X != X.", "p(X) :- X = Y, Y = X.", "p :- e(X), not e(X), not f(Y).", "p :- X < 1, X < 1.", "p(sum(X)) :- e(Y).", "p(sum(X)).",
	} {
		r := ruleOf(t, source)
		wantNoUse(t, r)
		wantPruneCode(t, []api.Rule{r}, atom("z"), api.ErrSafe)
		wantPruneCode(t, append(rulesOf(t, "a :- b."), r), atom("a"), api.ErrSafe)
	}
}

// P20.4: each error, of sources.
func TestErrors(t *testing.T) {
	for _, c := range []struct {
		rules, query string
		code         api.Errno
	}{
		{"p(X) :- e(Y).", "p(X)?", api.ErrSafe}, {"p(X) :- e(X). p(X) :- f(Y), 1 = 2.", "nobody?", api.ErrSafe},
		{"p(X) :- p(X, X).", "z?", api.ErrArity}, {"p(X) :- e(X). p :- e(1).", "z?", api.ErrArity}, {"p(X) :- e(X). r(X) :- f(X), not e(X, X).", "p(X)?", api.ErrArity}, {"p(X) :- e(X), e(X, X), 1 = 2.", "z?", api.ErrArity},
		{"p(X) :- e(X).", "p?", api.ErrArity}, {"p(X) :- e(X).", "p(X, Y)?", api.ErrArity}, {"p(X) :- e(X).", "e(1, 2)?", api.ErrArity}, {"p(X) :- e(X), not f(X).", "f?", api.ErrArity}, {"p(count()) :- e(X).", "p(X, Y)?", api.ErrArity},
		// also where it stands in what is taken away
		{"p(X) :- e(X), f(X), 1 = 2.", "f?", api.ErrArity}, {"p(X) :- e(X). p(X) :- e(X), f(X).", "f?", api.ErrArity}, {"p(X) :- e(X), 1 = 2.", "p?", api.ErrArity},
		{"p(X) :- e(X).", "p(1)?", api.OK}, {"p(X) :- e(X).", "z(1, 2)?", api.OK}, {"", "z(1, 2)?", api.OK}, {"q_a.", "q_a?", api.OK}, {"win(X) :- move(X, Y), not win(Y).", "win(1)?", api.OK}, {"p(Y) :- p(X), Y = X + 1.", "p(1)?", api.OK}, {"p(count()) :- p(X).", "p(1)?", api.OK},
	} {
		wantPruneCode(t, rulesOf(t, c.rules), queryOf(t, c.query), c.code)
	}
}

// P20.4: of several errors the first one.
func TestWhichErrorComesFirst(t *testing.T) {
	bad, safe, clash, fine := api.Rule{Pred: "P"}, ruleOf(t, "s(Y) :- e(X)."), ruleOf(t, "e(X, Y) :- f(X, Y)."), ruleOf(t, "fine(X) :- e(X), not g(X).")
	broken, other := atom("e", v("x"), v("Y")), atom("e", v("X"), v("Y"))
	for _, c := range []struct {
		rules []api.Rule
		query api.Atom
		code  api.Errno
	}{
		{[]api.Rule{fine, bad, safe, clash}, broken, api.ErrTerm}, {[]api.Rule{fine, safe, bad, clash}, broken, api.ErrSafe}, {[]api.Rule{fine, safe, clash}, broken, api.ErrSafe},
		{[]api.Rule{fine, clash}, broken, api.ErrArity}, {[]api.Rule{clash, fine}, other, api.ErrArity}, {[]api.Rule{fine}, broken, api.ErrTerm}, {[]api.Rule{fine}, other, api.ErrArity},
		{[]api.Rule{fine}, atom("e", v("X")), api.OK}, {nil, broken, api.ErrTerm}, {nil, other, api.OK},
	} {
		wantPruneCode(t, c.rules, c.query, c.code)
	}
}

// P20.4, R1: queries by hand that are none as they may be.
func TestNoQueries(t *testing.T) {
	rules := rulesOf(t, "p(X) :- e(X).")
	for _, q := range []api.Atom{
		{}, atom("P"), atom("P", v("X")), atom("", v("X")), atom("not", v("X")), atom("p q", v("X")), atom("_"), atom("p"+strings.Repeat("a", 120), v("X")),
		atom("p", v("x")), atom("p", api.Term{}), atom("p", v("X Y")), atom("p", api.Term{Var: "X", Val: num(1)}), atom("p", api.Term{Var: "_", Val: num(1)}),
		atom("p", api.Term{Val: api.Value{Kind: 3, Num: 1}}), atom("p", api.Term{Val: api.Value{Kind: api.KNum, Num: 1, Text: "a"}}), atom("p", api.Term{Val: text(strings.Repeat("a", 201))}),
		atom("p", v("X"+strings.Repeat("a", 120))), atom("p", many(25)...), atom("z", slices.Repeat([]api.Term{v("_")}, 25)...),
	} {
		wantPruneCode(t, rules, q, api.ErrTerm)
		wantPruneCode(t, nil, q, api.ErrTerm)
	}
	wantPruneCode(t, nil, atom("z", slices.Repeat([]api.Term{v("_")}, 24)...), api.OK)
	wantPruneCode(t, rules, atom("p", api.Term{Val: text(strings.Repeat("a", 200))}), api.OK)
}

// R4: empty lists and nil mean the same, in literals that are held against each other too.
func TestEmptyLists(t *testing.T) {
	one := api.Term{Val: num(1)}
	bare := []api.Literal{pos("e"), cmp(ex(v("X")), api.RelEq, ex(one)), not("f"), cmp(ex(one), api.RelEq, ex(one))}
	var empty []api.Literal
	for _, l := range bare {
		l.Atom.Args, l.Left.Kids, l.Right.Kids = []api.Term{}, []api.Expr{}, []api.Expr{}
		empty = append(empty, l)
	}
	want := "p :- e, X = 1, not f.\n"
	a, b := api.Rule{Pred: "p", Body: bare}, api.Rule{Pred: "p", Head: []api.Arg{}, Body: empty}
	for _, r := range []api.Rule{a, b, {Pred: "p", Body: slices.Concat(bare, empty)}, {Pred: "p", Body: slices.Concat(empty, bare)}} {
		if out, ok := subsume.Tidy(r); !ok || showRules(out) != want {
			t.Errorf("Tidy: %s, %v", showRules(out), ok)
		}
		for _, other := range []api.Rule{a, b, r} {
			if l, ok := subsume.Subsumes(r, other); !ok || showPairs(l) != "X = X" {
				t.Errorf("Subsumes: %v, %v", l, ok)
			}
		}
	}
	if l, err := subsume.Prune([]api.Rule{a, b}, api.Atom{Pred: "p", Args: []api.Term{}}); err != api.OK || showRules(l...) != want {
		t.Errorf("Prune: %s, %d", showRules(l...), err)
	}
	if _, ok := subsume.Tidy(api.Rule{Pred: "p", Body: []api.Literal{pos("e"), {Kind: api.LNot, Atom: api.Atom{Pred: "e", Args: []api.Term{}}}}}); ok {
		t.Errorf("Tidy of e and not e")
	}
	if out, ok := subsume.Tidy(api.Rule{Pred: "p", Head: []api.Arg{}, Body: []api.Literal{}}); !ok || showRules(out) != "p.\n" {
		t.Errorf("Tidy of a rule without a body: %v", out)
	}
	for _, rules := range [][]api.Rule{nil, {}} {
		if l, err := subsume.Prune(rules, atom("p")); err != api.OK || len(l) > 0 {
			t.Errorf("Prune without rules: %v, %d", l, err)
		}
	}
}
