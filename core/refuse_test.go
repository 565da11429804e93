package core_test

import (
	"slices"
	"strings"
	"testing"

	"pedigree/api"
	"pedigree/core"
)

// wantFreezeCode: the error of Freeze, beside which nothing else is told.
func wantFreezeCode(t *testing.T, r api.Rule, code api.Errno) {
	t.Helper()
	l, f, err := core.Freeze(r)
	if err != code || err != api.OK && (len(l) > 0 || f.Pred != "" || len(f.Args) > 0) {
		t.Errorf("Freeze(%s): %s; %v, %d; want %d", brief(showRules(r)), brief(showFacts(l...)), f, err, code)
	}
}

// wantListCode: the error of the calls that are handed rules, however the rules are dealt out among their arguments.
func wantListCode(t *testing.T, rules []api.Rule, code api.Errno) {
	t.Helper()
	l, err := core.Least(rules)
	if err != code || err != api.OK && len(l) > 0 {
		t.Errorf("Least(%s): %s, %d; want %d", brief(showRules(rules...)), brief(showRules(l...)), err, code)
	}
	for i := range len(rules) + 1 {
		if ok, err := core.Same(rules[:i], rules[i:]); err != code || err != api.OK && ok {
			t.Errorf("Same(%s, %s): %v, %d; want %d", brief(showRules(rules[:i]...)), brief(showRules(rules[i:]...)), ok, err, code)
		}
	}
	if len(rules) == 0 {
		return
	}
	last := len(rules) - 1
	if ok, err := core.Follows(rules[:last], rules[last]); err != code || err != api.OK && ok {
		t.Errorf("Follows(%s, %s): %v, %d; want %d", brief(showRules(rules[:last]...)), brief(showRules(rules[last])), ok, err, code)
	}
}

// noRules are rules by hand that are none as they may be.
func noRules() []api.Rule {
	one := []api.Literal{pos("e", v("X"))}
	with := func(l api.Literal) []api.Literal { return append(slices.Clone(one), l) }
	deep := ex(v("X"))
	for range 8 {
		deep = op(api.OpNeg, deep)
	}
	ring := make([]api.Expr, 2)
	ring[0], ring[1] = api.Expr{Op: api.OpAdd, Kids: ring}, api.Expr{Op: api.OpAdd, Kids: ring}
	return []api.Rule{
		{}, {Pred: "P"}, {Pred: "not"}, {Pred: "p q"}, {Pred: "p" + strings.Repeat("a", 120)},
		{Pred: "p", Head: head(v("_"))}, {Pred: "p", Head: head(v("x"))}, {Pred: "p", Head: head(api.Term{})}, {Pred: "p", Head: head(many(25)...)},
		{Pred: "p", Head: head(api.Term{Var: "X", Val: num(1)}), Body: one}, {Pred: "p", Head: head(api.Term{Val: text(strings.Repeat("a", 201))})}, {Pred: "p", Head: head(api.Term{Val: api.Value{Kind: 7}})},
		{Pred: "p", Head: []api.Arg{{Agg: api.AggCount, Term: v("X")}}, Body: one},
		{Pred: "p", Head: []api.Arg{{Agg: api.AggSum}}, Body: one}, {Pred: "p", Head: []api.Arg{{Agg: 5, Term: v("X")}}, Body: one}, {Pred: "p", Head: []api.Arg{{Agg: -1, Term: v("X")}}, Body: one},
		{Pred: "p", Body: []api.Literal{{}}}, {Pred: "p", Body: []api.Literal{{Kind: 9}}}, {Pred: "p", Body: []api.Literal{pos("")}}, {Pred: "p", Body: []api.Literal{{Kind: -1, Atom: atom("e")}}},
		{Pred: "p", Body: []api.Literal{pos("e", many(25)...)}}, {Pred: "p", Body: slices.Repeat([]api.Literal{pos("e")}, 17)}, {Pred: "p", Body: []api.Literal{pos("e", api.Term{})}},
		{Pred: "p", Body: []api.Literal{cmp(ex(v("_")), api.RelEq, ex(v("X")))}},
		{Pred: "p", Body: with(cmp(deep, api.RelEq, ex(v("X"))))}, {Pred: "p", Body: with(cmp(ex(v("X")), api.RelEq, ring[0]))},
		{Pred: "p", Body: with(cmp(ex(v("X")), api.RelNone, ex(v("X"))))},
		{Pred: "p", Body: []api.Literal{pos("e", many(24)...), pos("e", v("W"))}},
		{Pred: "p", Body: with(api.Literal{Kind: api.LPos, Atom: atom("e", v("X")), Rel: api.RelEq})}, {Pred: "p", Body: with(api.Literal{Kind: api.LPos, Atom: atom("e", v("X")), Left: ex(v("X"))})},
	}
}

// P21.1, R1: rules by hand that are none as they may be.
func TestNoRules(t *testing.T) {
	fine := ruleOf(t, "r(X) :- f(X).")
	for _, r := range noRules() {
		wantFreezeCode(t, r, api.ErrTerm)
		for _, rules := range [][]api.Rule{{r}, {r, fine}, {fine, r}, {r, r}, {fine, r, fine}} {
			wantListCode(t, rules, api.ErrTerm)
		}
	}
}

// P21.1: rules that are not safe, and such as are not simple, also where the predicates have nothing to do with one another.
func TestErrors(t *testing.T) {
	for _, c := range []struct {
		rule string
		code api.Errno
	}{
		{"p(X).", api.ErrSafe}, {"p(X) :- e(Y).", api.ErrSafe}, {"p :- e(X), not f(Y).", api.ErrSafe}, {"p(X) :- e(X), Y < 1.", api.ErrSafe}, {"p(sum(X)) :- e(Y).", api.ErrSafe}, {"p(X) :- not e(X).", api.ErrSafe},
		{"p :- not e.", api.ErrPlain}, {"p(X) :- e(X), not e(X).", api.ErrPlain}, {"p :- 1 = 1.", api.ErrPlain}, {"p(X) :- e(X), X = X.", api.ErrPlain}, {"p(X) :- X = 1.", api.ErrPlain}, {"p(Y) :- e(X), Y = X + 1.", api.ErrPlain}, {"p(X) :- e(X), X > 1.", api.ErrPlain}, {"p(X) :- 2 > 1, e(X).", api.ErrPlain},
		{"p(count()).", api.ErrPlain}, {"p(count()) :- e(X).", api.ErrPlain}, {"p(X, sum(Y)) :- e(X), f(Y).", api.ErrPlain}, {"p(min(Y), X) :- e(X), f(Y).", api.ErrPlain}, {"p(max(X)) :- e(X).", api.ErrPlain},
		{"p(X) :- e(X).", api.OK}, {"p.", api.OK}, {"q_p(X) :- q_e(X).", api.OK}, {"p :- e(_, _).", api.OK},
	} {
		r, fine := ruleOf(t, c.rule), ruleOf(t, "z(X) :- y(X).")
		wantFreezeCode(t, r, c.code)
		for _, rules := range [][]api.Rule{{r}, {r, fine}, {fine, r}, {fine, r, fine}} {
			wantListCode(t, rules, c.code)
		}
	}
	for _, source := range []string{"p(X) :- p(X, X).", "p(X) :- e(X). p :- e(1).", "p(X) :- e(X). r(X) :- e(X, X).", "p :- e, e(X).", "a. b. c. d :- a(1)."} {
		wantListCode(t, rulesOf(t, source), api.ErrArity)
	}
	// check.Rule alone looks at no arity
	wantFreezeCode(t, ruleOf(t, "p(X) :- p(X, X)."), api.OK)
}

// P21.1: of several errors the first one.
func TestWhichErrorComesFirst(t *testing.T) {
	bad, safe, clash, plain, fine := api.Rule{Pred: "P"}, ruleOf(t, "s(Y) :- e(X)."), ruleOf(t, "e(X, Y) :- f(X, Y)."), ruleOf(t, "n(X) :- e(X), not g(X)."), ruleOf(t, "fine(X) :- e(X).")
	for _, c := range []struct {
		rules []api.Rule
		code  api.Errno
	}{
		{[]api.Rule{plain, fine, bad, safe, clash}, api.ErrTerm}, {[]api.Rule{plain, safe, bad, clash, fine}, api.ErrSafe}, {[]api.Rule{plain, clash, fine, safe}, api.ErrSafe}, {[]api.Rule{plain, clash, fine, safe, bad}, api.ErrSafe},
		{[]api.Rule{plain, fine, clash}, api.ErrArity}, {[]api.Rule{clash, plain}, api.ErrArity}, {[]api.Rule{fine, plain}, api.ErrPlain}, {[]api.Rule{plain, fine}, api.ErrPlain}, {[]api.Rule{fine}, api.OK}, {nil, api.OK},
	} {
		wantListCode(t, c.rules, c.code)
	}
	// a rule that is none as it may be, not safe and not simple at one time
	wantFreezeCode(t, api.Rule{Pred: "P", Head: head(v("X")), Body: []api.Literal{cmp(ex(v("X")), api.RelLt, ex(v("X")))}}, api.ErrTerm)
	wantFreezeCode(t, ruleOf(t, "p(X) :- X < X."), api.ErrSafe)
}

// R4: empty lists and nil mean the same.
func TestEmptyLists(t *testing.T) {
	bare, empty := api.Rule{Pred: "p", Body: []api.Literal{pos("e"), pos("f")}}, api.Rule{Pred: "p", Head: []api.Arg{}, Body: []api.Literal{pos("e"), pos("f")}}
	for i := range empty.Body {
		empty.Body[i].Atom.Args, empty.Body[i].Left.Kids, empty.Body[i].Right.Kids = []api.Term{}, []api.Expr{}, []api.Expr{}
	}
	for _, r := range []api.Rule{bare, empty} {
		if l, f, err := core.Freeze(r); showFacts(l...) != "e. f." || showFacts(f) != "p." || err != api.OK {
			t.Errorf("Freeze: %v; %v, %d", l, f, err)
		}
		for _, other := range []api.Rule{bare, empty} {
			if ok, err := core.Follows([]api.Rule{other}, r); !ok || err != api.OK {
				t.Errorf("Follows: %v, %d", ok, err)
			}
			if l, err := core.Least([]api.Rule{r, other}); showRules(l...) != "p :- e, f.\n" || err != api.OK {
				t.Errorf("Least: %s, %d", showRules(l...), err)
			}
		}
	}
	said := api.Rule{Pred: "p", Head: []api.Arg{}, Body: []api.Literal{}}
	for _, none := range [][]api.Rule{nil, {}} {
		if ok, err := core.Follows(none, said); ok || err != api.OK {
			t.Errorf("Follows from nothing: %v, %d", ok, err)
		}
		if ok, err := core.Same(none, []api.Rule{}); !ok || err != api.OK {
			t.Errorf("Same of nothing: %v, %d", ok, err)
		}
		if l, err := core.Least(none); len(l) > 0 || err != api.OK {
			t.Errorf("Least of nothing: %v, %d", l, err)
		}
	}
}
