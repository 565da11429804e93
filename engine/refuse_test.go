package engine_test

import (
	"fmt"
	"slices"
	"strings"
	"testing"

	"pedigree/api"
	"pedigree/engine"
)

// wantFit asks for the refusal of a program and facts, of Fit and, whatever the query is, of Solve.
func wantFit(t *testing.T, p api.Program, l []api.Fact, want api.Refusal) {
	t.Helper()
	if r := engine.Fit(p, l); r != want {
		t.Errorf("Fit(%s, %s) = %v; want %v", brief(p), brief(l), r, want)
	}
	if want == fine() {
		return
	}
	for _, q := range []api.Atom{atom("p", v("X")), {}, atom("q_p"), atom("p", many(9)...)} {
		for _, w := range ways() {
			if got, r := engine.Solve(p, l, q, w); r != want || len(got) != 0 {
				t.Errorf("Solve(%s, %s, %s, %d) = %s, %v; want %v", brief(p), brief(l), brief(q), w, showTuples(got), r, want)
			}
		}
	}
}

// wantSolve asks for the refusal of a query, in all ways.
func wantSolve(t *testing.T, p api.Program, l []api.Fact, q api.Atom, want api.Refusal) {
	t.Helper()
	for _, w := range ways() {
		if got, r := engine.Solve(p, l, q, w); r != want || want != fine() && len(got) != 0 {
			t.Errorf("Solve(%s, %s, %s, %d) = %s, %v; want %v", brief(p), brief(l), brief(q), w, brief(got), r, want)
		}
	}
}

// P27.1: what is wrong with the program by itself, ahead of the facts; what is wrong with each fact by itself, ahead of the columns' types; these ahead of the levels.
func TestFitInItsOrder(t *testing.T) {
	for _, x := range []struct {
		program, facts string
		want           api.Refusal
	}{
		{"", "", fine()},
		{"p(X) :- e(X).", "e(1). e(a). p(2).", fine()},
		{"p(X) :- e(X). p(X) :- r(Y).", "e(1, 2).", refusal(api.PartProgram, api.ErrSafe, 1)},
		{"p(X) :- e(X). q_p(X) :- e(X).", "e(1, 2).", refusal(api.PartProgram, api.ErrReserved, 1)},
		{"p(X) :- e(X). r(X) :- e(X). r(X) :- e(X, X), X > 1, not r(X).", "e(a).", refusal(api.PartProgram, api.ErrArity, 2)},
		{"p(1). p(a). w :- not w.", "e(1). q_e. e(1, 2).", refusal(api.PartFacts, api.ErrReserved, 1)},
		{"p(1). p(a). w :- not w.", "e(1). e(1, 2).", refusal(api.PartFacts, api.ErrArity, 1)},
		{"w :- not w. p(1). p(a).", "p(a).", refusal(api.PartProgram, api.ErrType, 2)},
		{"w :- not w. p(X) :- e(X), X > 1. r(X) :- p(X), len(X) > 1. s(b) :- s(2).", "e(a).", refusal(api.PartProgram, api.ErrType, 2)},
		{"w :- not w. p(X) :- e(X), X > 1.", "e(1). z(a). e(2). e(a). e(b).", refusal(api.PartFacts, api.ErrType, 3)},
		{"w :- not w. p(X) :- e(X), X > 1.", "p(a).", refusal(api.PartFacts, api.ErrType, 0)},
		{"w :- not w. p(X) :- e(X), X > 1.", "e(1). z(a).", refusal(api.PartProgram, api.ErrNegCycle, 0)},
		{"p(X) :- e(X), X > 1. c(count()) :- c(X).", "e(1).", refusal(api.PartProgram, api.ErrAggCycle, 1)},
		{"p(X) :- e(X). z(Y) :- z(X), Y = X + 1.", "", refusal(api.PartProgram, api.ErrMakeCycle, 1)},
		{"a :- b. b :- c. c :- not a.", "", refusal(api.PartProgram, api.ErrNegCycle, 2)},
		{"p(X) :- e(X), not f(X). f(X) :- e(X), X > 1.", "e(2). e(3). f(3). p(1).", fine()},
	} {
		wantFit(t, program(t, x.program), facts(t, x.facts), x.want)
	}
}

// P27.1: the first fact that doesn't fit, wherever it stands, whatever stands behind it.
func TestTheFirstFactThatDoesNotFit(t *testing.T) {
	p := program(t, "p(X) :- e(X, Y), Y > 1.")
	for n := range 34 {
		for at := range n {
			l := slices.Repeat([]api.Fact{nums("e", 1, 2)}, n)
			l[at] = fact("e", num(1), text("a"))
			wantOne := engine.Fit(p, l)
			l[n-1] = fact("e", num(1), text("b"))
			if want := refusal(api.PartFacts, api.ErrType, at); wantOne != want || engine.Fit(p, l) != want {
				t.Fatalf("Fit of %d facts, the one at %d doesn't fit: %v, %v", n, at, wantOne, engine.Fit(p, l))
			}
		}
		wantFit(t, p, slices.Repeat([]api.Fact{fact("e", text("a"), num(2)), nums("e", 1, 2)}, n), fine())
	}
}

// noRules are rules by hand that are none as they may be.
func noRules() []api.Rule {
	one := []api.Literal{pos("e", v("X"))}
	deep := ex(v("X"))
	for range 8 {
		deep = op(api.OpNeg, deep)
	}
	return []api.Rule{
		{}, {Pred: "P"}, {Pred: "not"}, {Pred: "p q"}, {Pred: "p" + strings.Repeat("a", 120)},
		{Pred: "p", Head: head(v("_"))}, {Pred: "p", Head: head(v("x"))}, {Pred: "p", Head: head(api.Term{})}, {Pred: "p", Head: head(many(25)...)},
		{Pred: "p", Head: head(api.Term{Var: "X", Val: num(1)}), Body: one},
		{Pred: "p", Head: []api.Arg{{Agg: api.AggCount, Term: v("X")}}, Body: one},
		{Pred: "p", Head: []api.Arg{{Agg: -1, Term: v("X")}}, Body: one},
		{Pred: "p", Body: []api.Literal{{}}}, {Pred: "p", Body: []api.Literal{{Kind: 9}}}, {Pred: "p", Body: slices.Repeat([]api.Literal{pos("e")}, 17)},
		{Pred: "p", Body: append(slices.Clone(one), cmp(deep, api.RelEq, ex(v("X"))))},
		{Pred: "p", Body: append(slices.Clone(one), cmp(ex(v("X")), api.RelNone, ex(v("X"))))},
		{Pred: "p", Body: append(slices.Clone(one), cmp(op(api.OpAdd, ex(v("X"))), api.RelEq, ex(v("X"))))},
	}
}

// noFacts are facts by hand that are none as they may be.
func noFacts() []api.Fact {
	return []api.Fact{
		{}, {Pred: "E"}, {Pred: "max"}, {Pred: "e" + strings.Repeat("a", 120)}, wide("e", 25),
		fact("e", api.Value{}), fact("e", api.Value{Kind: 7}), fact("e", api.Value{Kind: api.KNum, Text: "a"}), fact("e", api.Value{Kind: api.KText, Num: 1}), fact("e", text(strings.Repeat("a", 201))),
	}
}

// P27.1, P27.2, R1, R2: rules, facts and queries by hand.
func TestThingsByHand(t *testing.T) {
	good := program(t, "p(X) :- e(X). w(X) :- e(X), X > 1, not w(X).").Rules
	for _, r := range noRules() {
		p := api.Program{Rules: []api.Rule{good[0], r, {}}}
		wantFit(t, p, nil, refusal(api.PartProgram, api.ErrTerm, 1))
		wantFit(t, p, noFacts(), refusal(api.PartProgram, api.ErrTerm, 1))
	}
	for _, f := range noFacts() {
		wantFit(t, api.Program{Rules: good}, []api.Fact{nums("e", 1), f, fact("e", text("a"))}, refusal(api.PartFacts, api.ErrValue, 1))
	}
	p, l := api.Program{Rules: good[:1]}, []api.Fact{nums("e", 1), nums("f", 1, 2)}
	for _, q := range []api.Atom{{}, atom("P"), atom("not"), atom("p", api.Term{}), atom("p", v("x")), atom("p", api.Term{Var: "X", Val: num(1)}), atom("p", many(25)...), atom("q_p", v(""))} {
		wantSolve(t, p, l, q, refusal(api.PartQuery, api.ErrTerm, 0))
	}
	for _, q := range []api.Atom{atom("p", many(9)...), atom(strings.Repeat("a", 25)), atom("p", v("X"+strings.Repeat("x", 24))), atom("q_" + strings.Repeat("a", 23))} {
		wantSolve(t, p, l, q, refusal(api.PartQuery, api.ErrSize, 0))
	}
	for _, q := range []api.Atom{atom("q_"), atom("q_p", v("X")), atom("q_p", many(8)...)} {
		wantSolve(t, p, l, q, refusal(api.PartQuery, api.ErrReserved, 0))
	}
	for _, q := range []api.Atom{atom("p"), atom("e", many(2)...), atom("f", v("_"))} {
		wantSolve(t, p, l, q, refusal(api.PartQuery, api.ErrArity, 0))
	}
	for _, q := range []api.Atom{atom("z"), atom("z", many(8)...), atom(strings.Repeat("a", 24), v("X"+strings.Repeat("x", 23))), atom("p", api.Term{Val: text("a")}), atom("f", v("_"), v("_"))} {
		wantSolve(t, p, l, q, fine())
	}
}

// P27.2, P27.3: a way that there is not, ahead of all else.
func TestWaysThatAreNot(t *testing.T) {
	for _, w := range noWays() {
		want := refusal(api.PartNone, api.ErrArg, 0)
		wantRefused(t, "p(", "", "", w, want)
		wantRefused(t, "p.", "p.", "p?", w, want)
		for _, p := range []api.Program{{}, {Rules: noRules()}, program(t, ancestors)} {
			for _, q := range []api.Atom{{}, atom("p")} {
				if got, r := engine.Solve(p, noFacts(), q, w); r != want || len(got) != 0 {
					t.Errorf("Solve by %d = %s, %v", w, brief(got), r)
				}
			}
		}
	}
}

// P27.3, P27.5: each text's fault ahead of the next one's, and all ahead of what Fit says; then the program's and the facts', then the query's.
func TestTextsInTheirOrder(t *testing.T) {
	long := strings.Repeat(" ", api.MaxSource+1)
	faults := []struct {
		source string
		code   api.Errno
		at     int
	}{
		{long, api.ErrLong, api.MaxSource}, {"p :- q(a$).", api.ErrByte, 8}, {"p(007).", api.ErrNum, 2}, {"p(\"a).", api.ErrQuote, 2}, {"p q.", api.ErrSyntax, 2}, {"?", api.ErrSyntax, 0},
	}
	for _, w := range ways() {
		for _, x := range faults {
			wantRefused(t, x.source, "e(X", "p", w, refusal(api.PartProgram, x.code, x.at))
			if x.source[0] != 'p' || x.code != api.ErrByte {
				wantRefused(t, "w :- not w. p(1). p(a).", x.source, "p", w, refusal(api.PartFacts, x.code, x.at))
			}
			if x.code != api.ErrByte {
				wantRefused(t, "w :- not w. p(1). p(a).", "q_.", x.source, w, refusal(api.PartQuery, x.code, x.at))
			}
		}
		deep := "p(X) :- e(X), X > " + strings.Repeat("-", 8) + "X."
		wantRefused(t, deep, "", "", w, refusal(api.PartProgram, api.ErrDeep, 0))
		wantRefused(t, "p. p :- "+strings.Repeat("e, ", 16)+"e.", "", "", w, refusal(api.PartProgram, api.ErrMany, 3))
		wantRefused(t, "p.", "e. e(1"+strings.Repeat(", 1", 24)+").", "", w, refusal(api.PartFacts, api.ErrMany, 3))
		wantRefused(t, "p.", "e. e(_).", "", w, refusal(api.PartFacts, api.ErrGround, 5))
		wantRefused(t, "p.", "e.", " p(1"+strings.Repeat(", 1", 24)+")?", w, refusal(api.PartQuery, api.ErrMany, 1))
		wantRefused(t, "p.", "e.", "p? p", w, refusal(api.PartQuery, api.ErrSyntax, 3))
		wantRefused(t, "p(X) :- f(Y).", "e(1). e(1, 2).", "q_?", w, refusal(api.PartProgram, api.ErrSafe, 0))
		wantRefused(t, "p.", "e(1). e(1, 2).", "q_?", w, refusal(api.PartFacts, api.ErrArity, 1))
		wantRefused(t, "w :- not w.", "e(1).", "e?", w, refusal(api.PartProgram, api.ErrNegCycle, 0))
		wantRefused(t, "p.", "e(1).", "e?", w, refusal(api.PartQuery, api.ErrArity, 0))
		wantRefused(t, "p(X) :- e(X, X).", "", "e(a)?", w, refusal(api.PartQuery, api.ErrArity, 0))
		wantRefused(t, "p.", "e(1).", "q_e?", w, refusal(api.PartQuery, api.ErrReserved, 0))
		wantRefused(t, "p.", "e(1).", "p"+strings.Repeat("a", 24)+"?", w, refusal(api.PartQuery, api.ErrSize, 0))
	}
}

// wantUnexplained asks for the refusal of an explanation, beside which nothing is told.
func wantUnexplained(t *testing.T, p, q string, want api.Refusal) {
	t.Helper()
	if got, r := engine.Explain(p, q); r != want || len(got) != 0 {
		t.Errorf("Explain(%q, %q) = %s, %v; want %v", brief(p), brief(q), brief(got), r, want)
	}
}

// P27.5: the program's fault, the query's, what Fit says without facts, what is wrong with the query.
func TestExplainRefuses(t *testing.T) {
	long := strings.Repeat(" ", api.MaxSource+1)
	for _, q := range []string{"p(", "p", "q_?", "p(1, 2)?", "p(X)?"} {
		wantUnexplained(t, "p(X) :- e(X", q, refusal(api.PartProgram, api.ErrSyntax, 11))
		wantUnexplained(t, long, q, refusal(api.PartProgram, api.ErrLong, api.MaxSource))
	}
	for _, p := range []string{"w :- not w.", "p(X) :- e(Y).", "p(1). p(a).", "p(X) :- e(X).", ""} {
		wantUnexplained(t, p, "p", refusal(api.PartQuery, api.ErrSyntax, 1))
		wantUnexplained(t, p, "p(X).", refusal(api.PartQuery, api.ErrSyntax, 4))
		wantUnexplained(t, p, " p(1"+strings.Repeat(", 1", 24)+")?", refusal(api.PartQuery, api.ErrMany, 1))
		wantUnexplained(t, p, long, refusal(api.PartQuery, api.ErrLong, api.MaxSource))
	}
	for _, q := range []string{"q_?", "p(1, 2, 3)?", "p(X)?", strings.Repeat("a", 25) + "?"} {
		wantUnexplained(t, "p(X) :- e(X). p(X) :- f(Y).", q, refusal(api.PartProgram, api.ErrSafe, 1))
		wantUnexplained(t, "p(X) :- e(X). p(a). p(1). w :- not w.", q, refusal(api.PartProgram, api.ErrType, 2))
		wantUnexplained(t, "p(X) :- e(X). w :- not w.", q, refusal(api.PartProgram, api.ErrNegCycle, 1))
		wantUnexplained(t, "p(X) :- e(X). z(count()) :- z(X).", q, refusal(api.PartProgram, api.ErrAggCycle, 1))
		wantUnexplained(t, "p(X) :- e(X). z(Y) :- z(X), Y = X * 2.", q, refusal(api.PartProgram, api.ErrMakeCycle, 1))
	}
	wantUnexplained(t, "p(X) :- e(X).", "q_?", refusal(api.PartQuery, api.ErrReserved, 0))
	wantUnexplained(t, "p(X) :- e(X).", "p(1, 2, 3)?", refusal(api.PartQuery, api.ErrArity, 0))
	wantUnexplained(t, "p(X) :- e(X).", "e?", refusal(api.PartQuery, api.ErrArity, 0))
	wantUnexplained(t, "p(X) :- e(X).", strings.Repeat("a", 25)+"?", refusal(api.PartQuery, api.ErrSize, 0))
	wantUnexplained(t, "p(X) :- e(X).", "z(1"+strings.Repeat(", 1", 8)+")?", refusal(api.PartQuery, api.ErrSize, 0))
}

// broken turns one thing of a rule, so that it mostly is none as it may be, or may not be used.
func (d *dice) broken(r api.Rule) api.Rule {
	r.Head, r.Body = slices.Clone(r.Head), slices.Clone(r.Body)
	switch d.below(8) {
	case 0:
		r.Pred = d.one("", "P", "not", "a", "e", "_", "q_", "q_a")
	case 1:
		r.Head = append(r.Head, api.Arg{Agg: api.Agg(d.below(7) - 1), Term: d.term('n')})
	case 2:
		r.Body = append(r.Body, api.Literal{Kind: api.LitKind(d.below(6) - 1), Atom: d.atom(d.kind(given()))})
	case 3:
		r.Body = append(r.Body, not(d.one("e", "n", "a", "new", "E"), v(d.one("X", "U", "_", "u"))))
	case 4:
		r.Body = append(r.Body, cmp(d.expr('n', 1), api.Rel(d.below(9)-1), api.Expr{Op: api.Op(d.below(13) - 1), Kids: []api.Expr{d.expr('n', 1)}}))
	case 5:
		r.Head = append(r.Head, api.Arg{Agg: api.AggCount})
	case 6:
		r.Head = append(r.Head, slices.Repeat([]api.Arg{{Term: api.Term{Val: num(1)}}}, 9)...)
	case 7:
		r.Body = append(r.Body, slices.Repeat([]api.Literal{not("g")}, 12)...)
	}
	return r
}

// brokenFact is mostly one that may not be, or not stand there.
func (d *dice) brokenFact() api.Fact {
	switch d.below(5) {
	case 0:
		return noFacts()[d.below(len(noFacts()))]
	case 1:
		return wide(d.one("e", "n", "a", "z", "new"), d.below(10))
	case 2:
		return fact(d.one("q_", "q_e", "e", "E"), num(1))
	case 3:
		return nums(d.one("e", "w", "x", "u"), 1, 2)
	}
	return fact(d.one("n", "a", "b"), text("a"))
}

func (d *dice) brokenQuery() api.Atom {
	switch d.below(4) {
	case 0:
		return atom(d.one("", "P", "p", "not"), v(d.one("X", "x", "_", "")))
	case 1:
		return atom(d.one("q_", "q_a", "q_e"), v("X"))
	case 2:
		return atom(d.one("a", "e", "new", "t"), many(d.below(10))...)
	}
	return atom(d.one("a", "e", "t")+strings.Repeat("a", 20+d.below(5)), v("X"))
}

// P27.1, P27.2, R1, R2: anything of which some is none: the first error, in any way.
func TestWhatMayNotBe(t *testing.T) {
	d := dice(21)
	all := map[string]int{}
	for range 8000 {
		p, l := d.program(5), d.facts(6)
		q, w := d.query(p), api.Way(d.below(4))
		for i, r := range p.Rules {
			if d.below(20) == 0 {
				p.Rules[i] = d.broken(r)
			}
		}
		if d.below(6) == 0 {
			l = slices.Insert(l, d.below(len(l)+1), d.brokenFact())
		}
		if d.below(5) == 0 {
			q = d.brokenQuery()
		}
		if d.below(30) == 0 {
			w = noWays()[d.below(5)]
		}
		want := slowFit(p, l)
		if r := engine.Fit(p, l); r != want {
			t.Fatalf("Fit(%s, %s) = %v; want %v", brief(p), brief(l), r, want)
		}
		tuples, want := slowSolve(p, l, q, w)
		if got, r := engine.Solve(p, l, q, w); told(got, r) != told(tuples, want) || r != want {
			t.Fatalf("Solve(%s, %s, %s, %d) = %s at %d; want %s at %d", brief(p), brief(l), brief(q), w, told(got, r), r.At, told(tuples, want), want.At)
		}
		all[fmt.Sprint(want.Part, int(want.Code), want.At > 0)]++
	}
	for _, part := range []string{"0 0 false", "0 1 false", "1 40 true", "1 40 false", "1 70 true", "1 70 false", "1 71 true", "1 73 true", "1 72 true", "2 10 true", "2 10 false", "2 70 true", "2 71 true", "2 72 true", "1 80 true", "2 80 true", "2 80 false", "1 90 true", "1 91 true", "1 92 true", "3 40 false", "3 70 false", "3 71 false", "3 72 false"} {
		if all[part] < 3 {
			t.Errorf("%s was told %d times alone: %v", part, all[part], all)
		}
	}
}

// scratched turns a byte of a source, or takes some away.
func (d *dice) scratched(s string) string {
	if len(s) == 0 || d.below(4) > 0 {
		return s
	}
	at := d.below(len(s))
	switch d.below(3) {
	case 0:
		return s[:at]
	case 1:
		return s[:at] + s[min(len(s), at+1+d.below(3)):]
	}
	return s[:at] + d.one("(", ")", ",", ".", "X", "1", "\"", "$", "?", "0", " not ", ":-", "_", "\x00", "-", "=", "count()") + s[at:]
}

// P27.3, P27.5, R1: texts that mostly are none.
func TestTextsThatMayNotBe(t *testing.T) {
	d := dice(22)
	all := map[string]int{}
	for range 8000 {
		p, l := d.program(4), d.facts(5)
		a, b, c := written(p, l, d.query(p))
		a, b, c = d.scratched(a), d.scratched(b), d.scratched(c)
		w := api.Way(d.below(4))
		want, x := slowAnswer(a, b, c, w)
		if got, r := engine.Answer(a, b, c, w); r != x || !slices.Equal(got, want) {
			t.Fatalf("Answer(%q, %q, %q, %d) = %s, %v; want %s, %v", a, b, c, w, got, r, want, x)
		}
		all[fmt.Sprint(x.Part, int(x.Code), x.At > 0)]++
		want, x = slowExplain(a, c)
		if got, r := engine.Explain(a, c); r != x || !slices.Equal(got, want) {
			t.Fatalf("Explain(%q, %q) = %s, %v; want %s, %v", a, c, got, r, want, x)
		}
	}
	for _, part := range []string{"0 0 false", "1 31 true", "1 33 true", "1 50 true", "1 73 true", "1 72 true", "1 80 true", "2 31 true", "2 32 true", "2 33 true", "2 50 true", "2 72 true", "2 74 true", "3 31 true", "3 50 true", "3 50 false", "3 72 false"} {
		if all[part] < 3 {
			t.Errorf("%s was told %d times alone: %v", part, all[part], all)
		}
	}
}
