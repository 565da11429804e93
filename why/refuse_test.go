package why_test

import (
	"slices"
	"strings"
	"testing"

	"pedigree/api"
	"pedigree/check"
	"pedigree/depend"
	"pedigree/why"
)

// refused: Why says the error, whatever the fact is, and Check is false, whatever the proof is.
func refused(t *testing.T, p api.Program, l []api.Fact, code api.Errno) {
	t.Helper()
	for _, f := range []api.Fact{{}, fact("e", num(1)), fact("p", num(1)), fact("P", api.Value{})} {
		wantCode(t, p, l, f, code)
	}
	proofs := []api.Proof{{}, given(fact("e", num(1)))}
	for _, f := range l {
		proofs = append(proofs, given(f))
	}
	for _, x := range proofs {
		wantCheck(t, p, l, x, false)
	}
}

// P23.1, P23.4: each error that a program and facts have.
func TestErrors(t *testing.T) {
	for _, c := range []struct {
		rules, facts string
		code         api.Errno
	}{
		{"p(Y) :- e(X).", "e(1).", api.ErrSafe},
		{"p(X) :- e(X), not f(Y).", "e(1).", api.ErrSafe},
		{"p(X) :- p(X, X).", "e(1).", api.ErrArity},
		{"p(X) :- e(X).", "e(1). e(1, 2).", api.ErrArity},
		{"p(X) :- e(X).", "p(1, 2).", api.ErrArity},
		{"", "z. z(1).", api.ErrArity},
		{"p(X) :- e(X), not p(X).", "e(1).", api.ErrNegCycle},
		{"p(X) :- e(X), not q(X). q(X) :- p(X).", "e(1).", api.ErrNegCycle},
		{"p(count()) :- p(X).", "e(1).", api.ErrAggCycle},
		{"p(Y) :- p(X), Y = X + 1.", "e(1).", api.ErrMakeCycle},
		// also where the fact does not hang on what is wrong
		{"p(X) :- e(X). w(X) :- e(X), not w(X).", "e(1).", api.ErrNegCycle},
		{"p(X) :- e(X). w(Y) :- e(X).", "e(1).", api.ErrSafe},
	} {
		refused(t, programOf(t, c.rules), factsOf(t, c.facts), c.code)
	}
}

// P23.1: of several errors the first one.
func TestWhichErrorComesFirst(t *testing.T) {
	rule := func(source string) api.Rule { return programOf(t, source).Rules[0] }
	bad, safe, clash := api.Rule{Pred: "P"}, rule("s(Y) :- e(X)."), rule("e(X, Y) :- f(X, Y).")
	neg, agg, fine := rule("w(X) :- e(X), not w(X)."), rule("a(count()) :- a(X)."), rule("p(X) :- e(X).")
	wrong := []api.Fact{{Pred: "e", Args: []api.Value{{Kind: 7}}}}
	for _, c := range []struct {
		rules []api.Rule
		facts []api.Fact
		code  api.Errno
	}{
		{[]api.Rule{fine, neg, bad, safe, clash}, wrong, api.ErrTerm},
		{[]api.Rule{fine, neg, safe, bad, clash}, wrong, api.ErrSafe},
		{[]api.Rule{fine, neg, clash}, append(factsOf(t, "e. z."), wrong...), api.ErrValue},
		{[]api.Rule{fine, neg, clash}, factsOf(t, "e(1)."), api.ErrArity},
		{[]api.Rule{fine, neg}, factsOf(t, "e(1). z. z(1)."), api.ErrArity},
		{[]api.Rule{fine, neg, agg}, factsOf(t, "e(1)."), api.ErrNegCycle},
		{[]api.Rule{fine, agg, neg}, factsOf(t, "e(1)."), api.ErrAggCycle},
	} {
		refused(t, api.Program{Rules: c.rules}, c.facts, c.code)
	}
	many := programOf(t, doubling(40)+" w :- a40, not w.")
	wantCode(t, many, nil, fact("a40"), api.ErrNegCycle)
	many = programOf(t, doubling(40))
	wantCode(t, many, nil, fact("a41"), api.ErrNoProof)
	wantCode(t, many, factsOf(t, "a40."), fact("a40"), api.OK)
}

// P23.1: what is not in the model has no proof, whatever it is.
func TestNoProof(t *testing.T) {
	p, l := programOf(t, family), factsOf(t, three)
	a, b := text("a"), text("b")
	for _, f := range []api.Fact{
		{}, fact("par"), fact("par", a), fact("par", b, a), fact("par", a, b, a), fact("anc", b, a), fact("ghost"), fact("Par", a, b), fact("par ", a, b),
		fact("par", a, api.Value{Kind: api.KText, Num: 1, Text: "b"}), fact("par", a, api.Value{Kind: api.KNum, Text: "b"}), fact("par", a, api.Value{Text: "b"}), fact("par", a, api.Value{}),
		fact("n", num(0)), fact("n", text("1")), fact("big", num(2)), fact("root", b), fact("anc", a, text(strings.Repeat("b", 300))), fact("not", a), fact("_", a),
		{Pred: "par", Args: slices.Repeat([]api.Value{a}, 30)},
	} {
		wantCode(t, p, l, f, api.ErrNoProof)
		wantCode(t, api.Program{}, nil, f, api.ErrNoProof)
		wantCheck(t, p, l, given(f), false)
		wantCheck(t, p, l, api.Proof{Kind: api.ProofRule, Fact: f}, false)
	}
}

// P23.4: one thing after the other is turned in a proof with all kinds of parts.
func TestCheckOfTurnedProofs(t *testing.T) {
	p, l := programOf(t, "p(X, Y) :- e(X, _), not f(X, _, 3), Y = X + 1, q(5), Y > X. q(5). p(X, X) :- e(X, _). n(X, count()) :- e(X, Y), not g(Y, _)."), factsOf(t, "e(1, 0). e(1, 1). e(2, 1). f(2, 2, 3).")
	one, zero := num(1), num(0)
	e, q := given(fact("e", one, one)), api.Proof{Kind: api.ProofRule, Rule: 1, Fact: fact("q", num(5))}
	absent, yes := api.Proof{Kind: api.ProofAbsent, Fact: fact("f", one, api.Value{}, num(3))}, api.Proof{Kind: api.ProofTrue}
	x := api.Proof{Kind: api.ProofRule, Fact: fact("p", one, num(2)), Binds: []api.Bind{bind("X", one), bind("Y", num(2))}, Kids: []api.Proof{e, absent, yes, q, yes}}
	wantCheck(t, p, l, x, true) // though e(1, 0) comes first
	turn := func(f func(*api.Proof)) {
		t.Helper()
		y := copyProof(x)
		f(&y)
		wantCheck(t, p, l, y, false)
	}
	for _, kind := range []api.ProofKind{api.ProofNone, api.ProofGiven, api.ProofAbsent, api.ProofTrue, -1, 5} {
		turn(func(y *api.Proof) { y.Kind = kind })
	}
	for _, n := range []int{-1, 1, 2, 3, 4, 9223372036854775807, -9223372036854775808} {
		turn(func(y *api.Proof) { y.Rule = n })
		for _, i := range []int{0, 1, 2, 4} {
			turn(func(y *api.Proof) { y.Kids[i].Rule = n })
		}
	}
	turn(func(y *api.Proof) { y.Fact.Args[1] = one })
	turn(func(y *api.Proof) { y.Fact.Args = y.Fact.Args[:1] })
	turn(func(y *api.Proof) { y.Fact.Pred = "e" })
	turn(func(y *api.Proof) { y.Binds = y.Binds[:1] })
	turn(func(y *api.Proof) { y.Binds = append(y.Binds, bind("Z", one)) })
	turn(func(y *api.Proof) { y.Binds[0], y.Binds[1] = y.Binds[1], y.Binds[0] })
	turn(func(y *api.Proof) { y.Binds[0].Var = "Z" })
	turn(func(y *api.Proof) { y.Binds[0].Val = api.Value{Kind: api.KNum, Num: 1, Text: "x"} })
	turn(func(y *api.Proof) { y.Binds[1].Val = num(3) })
	turn(func(y *api.Proof) { y.Fact.Args[1], y.Binds[1].Val = num(3), num(3) })
	for i := range x.Kids {
		turn(func(y *api.Proof) { y.Kids = slices.Delete(y.Kids, i, i+1) })
		turn(func(y *api.Proof) { y.Kids = slices.Insert(y.Kids, i, y.Kids[i]) })
		turn(func(y *api.Proof) { y.Kids[i].Kind = (y.Kids[i].Kind + 1) % 5 })
		turn(func(y *api.Proof) { y.Kids[i].Binds = []api.Bind{bind("X", one)} })
		turn(func(y *api.Proof) { y.Kids[i].Kids = []api.Proof{yes} })
		turn(func(y *api.Proof) { y.Kids[i].Fact.Pred += "x" })
		turn(func(y *api.Proof) { y.Kids[i].Fact.Args = append(y.Kids[i].Fact.Args, one) })
		turn(func(y *api.Proof) { y.Kids[i] = api.Proof{} })
	}
	turn(func(y *api.Proof) { y.Kids[0].Fact.Args[0] = num(2) })      // another given fact
	turn(func(y *api.Proof) { y.Kids[0].Fact.Args[1] = num(2) })      // none that is given
	turn(func(y *api.Proof) { y.Kids[1].Fact.Args[1] = zero })        // a blank is the zero Value there
	turn(func(y *api.Proof) { y.Kids[1].Fact.Args[2] = api.Value{} }) // and a value is none
	turn(func(y *api.Proof) { y.Kids[0], y.Kids[3] = y.Kids[3], y.Kids[0] })
	y := copyProof(x)
	y.Kids[0].Fact.Args[1] = zero
	wantCheck(t, p, l, y, true)
	wantCheck(t, p, factsOf(t, "e(1, 1). f(1, 0, 3)."), x, false)
	wantCheck(t, p, factsOf(t, "e(1, 1). f(1, 0, 4)."), x, true)
	wantCheck(t, p, factsOf(t, "e(1, 0)."), x, false)
}

// P23.4: a proof by a group has the kids of all its solutions, in their order, and of no others.
func TestCheckOfGroups(t *testing.T) {
	p, l := programOf(t, "n(X, count(), max(Y)) :- e(X, Y), not g(Y, _). s(sum(Y), X) :- e(X, Y)."), factsOf(t, "e(1, 0). e(1, 1). e(2, 1). e(1, 7). g(7, 7). e(3, x). e(3, 4).")
	x := mustWhy(t, p, l, fact("n", num(1), num(2), num(1)))
	e, g := given(fact("e", num(1), num(0))), api.Proof{Kind: api.ProofAbsent, Fact: fact("g", num(0), api.Value{})}
	if len(x.Kids) != 4 || !isSame(x.Kids[0], e) || !isSame(x.Kids[1], g) {
		t.Fatalf("%s", showProof(x))
	}
	wantCheck(t, p, l, x, true)
	for _, turn := range []func(*api.Proof){
		func(y *api.Proof) { y.Kids = append(y.Kids[2:4:4], y.Kids[:2]...) }, // the other order
		func(y *api.Proof) { y.Kids = y.Kids[:2] },
		func(y *api.Proof) { y.Kids = y.Kids[2:] },
		func(y *api.Proof) { y.Kids = nil },
		func(y *api.Proof) { y.Kids = append(y.Kids, y.Kids[:2]...) },
		func(y *api.Proof) { y.Kids[2] = e },
		func(y *api.Proof) { y.Fact.Args[1] = num(1) },
		func(y *api.Proof) { y.Fact.Args[2] = num(0) },
		func(y *api.Proof) { y.Fact.Args[0] = num(2) },
		func(y *api.Proof) { y.Binds = nil },
		func(y *api.Proof) { y.Binds[0].Val = num(2) },
		func(y *api.Proof) { y.Binds[0].Var = "Y" },
		func(y *api.Proof) { y.Binds = append(y.Binds, bind("Y", num(1))) },
		func(y *api.Proof) { y.Rule = 1 },
	} {
		y := copyProof(x)
		turn(&y)
		wantCheck(t, p, l, y, false)
	}
	// the group of 3 has a text in its sum
	for _, sum := range []api.Value{num(4), num(0), text("x"), {}} {
		wantCheck(t, p, l, api.Proof{Kind: api.ProofRule, Rule: 1, Fact: fact("s", sum, num(3)), Binds: []api.Bind{bind("X", num(3))}, Kids: []api.Proof{given(fact("e", num(3), num(4))), given(fact("e", num(3), text("x")))}}, false)
	}
	wantCheck(t, p, l, api.Proof{Kind: api.ProofRule, Rule: 1, Fact: fact("s", num(1), num(2)), Binds: []api.Bind{bind("X", num(2))}, Kids: []api.Proof{given(fact("e", num(2), num(1)))}}, true)
}

// broken turns one thing of a rule, so that it mostly is none as it may be, or may not be used.
func (d *dice) broken(r api.Rule) api.Rule {
	r.Head, r.Body = slices.Clone(r.Head), slices.Clone(r.Body)
	switch d.below(5) {
	case 0:
		r.Pred = d.one("", "P", "not", "a", "e")
	case 1:
		r.Head = append(r.Head, api.Arg{Agg: api.Agg(d.below(7) - 1), Term: d.term()})
	case 2:
		r.Body = append(r.Body, api.Literal{Kind: api.LitKind(d.below(6) - 1), Atom: d.atom(d.pred(base()))})
	case 3:
		r.Body = append(r.Body, not(d.one("e", "n", "a", "new", "E"), v(d.one("X", "U", "_", "u"))))
	case 4:
		r.Body = append(r.Body, cmp(d.expr(1), api.Rel(d.below(9)-1), api.Expr{Op: api.Op(d.below(13) - 1), Kids: []api.Expr{d.expr(1)}}))
	}
	return r
}

// P23.1, P23.4, R1: rules and facts of which some are none.
func TestWhatMayNotBe(t *testing.T) {
	d := dice(5)
	codes := map[api.Errno]int{}
	rings := programOf(t, "a(X) :- n(X), not a(X). a(X) :- b(X). b(count()) :- a(X). a(Y) :- a(X), Y = X + 1.").Rules
	for range 4000 {
		p, l := d.program(6), d.facts(6)
		for i, r := range p.Rules {
			if d.below(10) == 0 {
				p.Rules[i] = d.broken(r)
			}
		}
		if d.below(8) == 0 {
			p.Rules = append(p.Rules, rings[d.below(4)], rings[d.below(4)])
		}
		if len(l) > 0 && d.below(6) == 0 {
			l[0].Args = append(l[0].Args, api.Value{Kind: api.Kind(d.below(4)), Num: int64(d.below(2))})
		}
		code := check.Job(p.Rules, l)
		if code == api.OK {
			_, _, code = depend.Levels(p)
		}
		if codes[code]++; code != api.OK {
			refused(t, p, l, code)
			continue
		}
		for _, f := range l {
			wantCheck(t, p, l, given(f), true)
			if x := mustWhy(t, p, l, f); !isSame(x, given(f)) {
				t.Fatalf("%s: %s", called(p, l, f), showProof(x))
			}
		}
	}
	for _, code := range []api.Errno{api.OK, api.ErrTerm, api.ErrSafe, api.ErrValue, api.ErrArity, api.ErrNegCycle, api.ErrAggCycle, api.ErrMakeCycle} {
		if codes[code] < 20 {
			t.Errorf("%d was told %d times alone", code, codes[code])
		}
	}
}

// R4: empty lists are as none.
func TestEmptyLists(t *testing.T) {
	p := api.Program{Rules: []api.Rule{{Pred: "a", Head: []api.Arg{}, Body: []api.Literal{}}, {Pred: "b", Body: []api.Literal{{Kind: api.LPos, Atom: api.Atom{Pred: "a", Args: []api.Term{}}}, {Kind: api.LNot, Atom: api.Atom{Pred: "c", Args: []api.Term{}}}}}}}
	x := mustWhy(t, p, []api.Fact{}, api.Fact{Pred: "b", Args: []api.Value{}})
	want := api.Proof{Kind: api.ProofRule, Rule: 1, Fact: fact("b"), Kids: []api.Proof{{Kind: api.ProofRule, Fact: fact("a")}, {Kind: api.ProofAbsent, Fact: fact("c")}}}
	if !isSame(x, want) {
		t.Errorf("%s", showProof(x))
	}
	wantCheck(t, p, nil, want, true)
	empty := api.Proof{Kind: api.ProofRule, Rule: 1, Fact: api.Fact{Pred: "b", Args: []api.Value{}}, Binds: []api.Bind{}, Kids: []api.Proof{
		{Kind: api.ProofRule, Fact: api.Fact{Pred: "a", Args: []api.Value{}}, Binds: []api.Bind{}, Kids: []api.Proof{}}, {Kind: api.ProofAbsent, Fact: api.Fact{Pred: "c", Args: []api.Value{}}, Binds: []api.Bind{}, Kids: []api.Proof{}}}}
	wantCheck(t, p, []api.Fact{}, empty, true)
	if l, err := why.Lines(empty); err != api.OK || !slices.Equal(l, []string{"b by rule 1", "  a by rule 0", "  not c"}) {
		t.Errorf("Lines: %q, %d", l, err)
	}
	if why.Height(api.Proof{Kids: []api.Proof{}}) != 1 {
		t.Errorf("Height of no kids")
	}
}
