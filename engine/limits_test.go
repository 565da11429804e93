package engine_test

import (
	"fmt"
	"slices"
	"strings"
	"testing"

	"pedigree/api"
	"pedigree/engine"
	"pedigree/print"
)

// chain are facts that lead from 0 to n.
func chain(pred string, n int) []api.Fact {
	var out []api.Fact
	for i := range int64(n) {
		out = append(out, nums(pred, i, i+1))
	}
	return out
}

// padded is a name of so many bytes.
func padded(name string, bytes int) string {
	return name + strings.Repeat("a", bytes-len(name))
}

// wantWays asks for the tuples in all ways.
func wantWays(t *testing.T, p api.Program, l []api.Fact, q api.Atom, want string) {
	t.Helper()
	for _, w := range ways() {
		if got, r := engine.Solve(p, l, q, w); r != fine() || showTuples(got) != want {
			t.Errorf("Solve(%s, %s, %s, %d) = %s, %v; want %s", brief(p), brief(showFacts(l)), brief(q), w, brief(showTuples(got)), r, brief(want))
		}
	}
}

// P27.1, P27.4: what is as large as a user may hand it in is taken, and answered in each way; one more is not.
func TestLimits(t *testing.T) {
	name, variable := padded("p", api.MaxName), padded("X", api.MaxName)
	copied := api.Rule{Pred: name, Head: head(many(api.MaxArity)...), Body: []api.Literal{pos("e", many(api.MaxArity)...)}}
	wantWays(t, api.Program{Rules: []api.Rule{copied}}, []api.Fact{wide("e", 8)}, atom(name, many(8)...), "(0, 1, 2, 3, 4, 5, 6, 7)")
	full := api.Rule{Pred: "p", Head: head(v(variable)), Body: append(slices.Repeat([]api.Literal{not("z")}, api.MaxLits-1), pos("n", v(variable)))}
	wantWays(t, api.Program{Rules: []api.Rule{full}}, []api.Fact{nums("n", 3)}, atom("p", v(variable)), "(3)")
	deep := ex(v("X"))
	for range api.MaxDepth - 1 {
		deep = op(api.OpNeg, deep)
	}
	wantWays(t, api.Program{Rules: []api.Rule{{Pred: "p", Head: head(v("Y")), Body: []api.Literal{pos("n", v("X")), cmp(ex(v("Y")), api.RelEq, deep)}}}}, []api.Fact{nums("n", 5)}, atom("p", v("X")), "(-5)")
	many24 := api.Rule{Pred: "p", Head: head(v("V23")), Body: []api.Literal{pos("e", many(24)[:8]...), pos("e", many(24)[8:16]...), pos("e", many(24)[16:]...)}}
	wantWays(t, api.Program{Rules: []api.Rule{many24}}, []api.Fact{wide("e", 8)}, atom("p", v("X")), "(7)")

	long := copied
	long.Pred = padded("p", api.MaxName+1)
	wantFit(t, api.Program{Rules: []api.Rule{copied, long}}, nil, refusal(api.PartProgram, api.ErrSize, 1))
	long = full
	long.Body = append(slices.Clone(full.Body), not("z"))
	wantFit(t, api.Program{Rules: []api.Rule{full, long}}, nil, refusal(api.PartProgram, api.ErrSize, 1))
	long = api.Rule{Pred: "k", Head: head(many(9)...), Body: []api.Literal{pos("e", many(8)...), pos("n", v("V8"))}}
	wantFit(t, api.Program{Rules: []api.Rule{copied, long}}, nil, refusal(api.PartProgram, api.ErrSize, 1))
	wantFit(t, api.Program{}, []api.Fact{wide("e", 8), wide("f", 9)}, refusal(api.PartFacts, api.ErrSize, 1))

	rules := slices.Repeat([]api.Rule{full}, api.MaxRules)
	wantWays(t, api.Program{Rules: rules}, []api.Fact{nums("n", 3)}, atom("p", v("X")), "(3)")
	wantFit(t, api.Program{Rules: append(rules, full)}, nil, refusal(api.PartProgram, api.ErrSize, 0))
	wantFit(t, api.Program{}, slices.Repeat([]api.Fact{nums("n", 3)}, api.MaxFacts), fine())
	wantFit(t, api.Program{}, slices.Repeat([]api.Fact{nums("n", 3)}, api.MaxFacts+1), refusal(api.PartFacts, api.ErrSize, 0))
}

// largest is a program of as many rules as may be, each with as many literals, variables and columns: each predicate asks the next ones, with some columns known and some not.
func largest() api.Program {
	const kinds = 25
	name := func(i int) string { return padded(fmt.Sprint("p", i%kinds, "x"), api.MaxName) }
	var out []api.Rule
	for i := range api.MaxRules {
		r := api.Rule{Pred: name(i), Head: head(many(24)[:8]...)}
		r.Body = append(r.Body, pos(name(i+1), many(24)[:8]...), pos(name(i+2), many(24)[8:16]...), pos(name(i+3), many(24)[16:]...))
		for j := range api.MaxLits - 3 {
			r.Body = append(r.Body, pos(name(i+j), many(24)[j:j+8]...))
		}
		out = append(out, r)
	}
	return api.Program{Rules: out}
}

// P27.4: the largest rules that a user may hand in have no ErrSize, nor any other error, in any way; nor do the passes that are told.
func TestTheLargestRules(t *testing.T) {
	p := largest()
	q := atom(p.Rules[0].Pred, many(8)...)
	q.Args[3] = api.Term{Val: num(3)}
	l := []api.Fact{wide(p.Rules[1].Pred, 8), wide(p.Rules[0].Pred, 8)}
	wantWays(t, p, l, q, "(0, 1, 2, 3, 4, 5, 6, 7)")
	few := api.Program{Rules: p.Rules[:50]}
	source, _ := print.Program(few)
	asked, _ := print.Query(q)
	got, r := engine.Explain(source, asked)
	if r != fine() {
		t.Fatalf("Explain of the largest rules: %v", r)
	}
	if x := sections(t, got); len(x.plain) != 50 || len(x.pruned) < 25 || len(x.seeds) != 1 || x.pairs < 26 {
		t.Errorf("%d plain, %d pruned, %d seeds, %d pairs", len(x.plain), len(x.pruned), len(x.seeds), x.pairs)
	}
}

// P27.3, P27.5: texts of as many bytes as there may be, and of one more.
func TestTheLongestTexts(t *testing.T) {
	fill := func(s string) string { return s + strings.Repeat(" ", api.MaxSource-len(s)) }
	p, l, q := fill("p(X) :- e(X)."), fill("e(1)."), fill("p(X)?")
	for _, w := range ways() {
		wantAnswer(t, p, l, q, w, []string{"p(1)."})
		wantRefused(t, p+" ", l+" ", q+" ", w, refusal(api.PartProgram, api.ErrLong, api.MaxSource))
		wantRefused(t, p, l+" ", q+" ", w, refusal(api.PartFacts, api.ErrLong, api.MaxSource))
		wantRefused(t, p, l, q+" ", w, refusal(api.PartQuery, api.ErrLong, api.MaxSource))
	}
	if got, r := engine.Explain(p, q); r != fine() || len(got) != 14 {
		t.Errorf("Explain = %s, %v", got, r)
	}
	wantUnexplained(t, p+" ", q+" ", refusal(api.PartProgram, api.ErrLong, api.MaxSource))
	wantUnexplained(t, p, q+" ", refusal(api.PartQuery, api.ErrLong, api.MaxSource))
}

// P27.2: as many facts as a user may hand in, of which a query asks for few.
func TestAsManyFactsAsMayBe(t *testing.T) {
	l := chain("e", api.MaxFacts)
	wantWays(t, program(t, "two(X, Z) :- e(X, Y), e(Y, Z). far(X) :- e(X, _), not near(X). near(X) :- e(X, Y), X < 65530. n(count()) :- far(X)."), l, atom("far", v("X")), "(65530) (65531) (65532) (65533) (65534) (65535)")
	wantWays(t, program(t, "two(X, Z) :- e(X, Y), e(Y, Z)."), l, atom("two", api.Term{Val: num(7)}, v("X")), "(7, 9)")
	wantWays(t, api.Program{}, l, atom("e", v("X"), api.Term{Val: num(65536)}), "(65535, 65536)")
	for _, at := range []int{0, 40000, api.MaxFacts - 1} {
		old := l[at]
		l[at] = fact("e", num(1), text("a"))
		wantFit(t, program(t, "p(X) :- e(X, Y), Y > 1."), l, refusal(api.PartFacts, api.ErrType, at))
		l[at] = old
	}
}

// P27.2: a long way to go, from below and from above; and as many levels as there may be.
func TestLongWays(t *testing.T) {
	const long = 3000
	l := chain("e", long)
	wantWays(t, program(t, "r(0). r(Y) :- r(X), e(X, Y)."), l, atom("r", api.Term{Val: num(long)}), fmt.Sprint("(", long, ")"))
	wantWays(t, program(t, fmt.Sprint("to(", long, "). to(X) :- e(X, Y), to(Y).")), l, atom("to", api.Term{Val: num(0)}), "(0)")
	var source strings.Builder
	source.WriteString("p0(1).")
	for i := range api.MaxRules - 1 {
		fmt.Fprintf(&source, " p%d(X) :- e(X), not p%d(X).", i+1, i)
	}
	p := program(t, source.String())
	wantWays(t, p, facts(t, "e(1). e(2)."), atom("p499", v("X")), "(2)")
	wantWays(t, p, facts(t, "e(1). e(2)."), atom("p498", v("X")), "(1)")
}
