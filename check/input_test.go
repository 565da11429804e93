package check_test

import (
	"slices"
	"strings"
	"testing"

	"pedigree/api"
	"pedigree/check"
	"pedigree/parse"
)

// input is what a user hands in.
type input struct {
	Rules []api.Rule
	Facts []api.Fact
	Query api.Atom
}

func (x input) ask() api.Refusal { return check.Input(program(x.Rules...), x.Facts, x.Query) }

func wantInput(t *testing.T, x input, want api.Refusal) {
	t.Helper()
	if got := x.ask(); got != want {
		t.Errorf("Input(%s) = %v, want %v", brief(x), got, want)
	}
}

func inProgram(code api.Errno, at int) api.Refusal {
	return api.Refusal{Part: api.PartProgram, Code: code, At: at}
}

func inFacts(code api.Errno, at int) api.Refusal {
	return api.Refusal{Part: api.PartFacts, Code: code, At: at}
}

func inQuery(code api.Errno) api.Refusal { return api.Refusal{Part: api.PartQuery, Code: code} }

// inputOf reads three sources.
func inputOf(t *testing.T, rules, facts, query string) input {
	t.Helper()
	q, fault := parse.Query(query)
	if (fault != api.Fault{}) {
		t.Fatalf("%s: %v", query, fault)
	}
	return input{rulesOf(t, rules), factsOf(t, facts), q}
}

// P7.7: sources, each with the refusal.
func TestInput(t *testing.T) {
	for _, c := range []struct {
		rules, facts, query string
		want                api.Refusal
	}{
		{"", "", "p?", api.Refusal{}},
		{"p(X) :- q(X).", "q(1). q(2). q(1). r(1, 2).", "p(X)?", api.Refusal{}},
		{"p(X) :- q(X). p(X) :- r(Y).", "q_m(1).", "q_m(1)?", inProgram(api.ErrSafe, 1)},
		{"p(X) :- q(X). p(X) :- q(X, X). p(X) :- r(Y).", "", "p(X)?", inProgram(api.ErrSafe, 2)},
		{"p(X) :- q(X). p(X) :- q(X, X). p(X) :- r(X).", "", "p(X)?", inProgram(api.ErrArity, 1)},
		{"p(X) :- q(X).", "q(1). q_m(1). q(1, 2).", "p(X)?", inFacts(api.ErrReserved, 1)},
		{"p(X) :- q(X).", "q(1).", "p(X, Y)?", inQuery(api.ErrArity)},
		{"p(X) :- q(X).", "q(1).", "p(5)?", api.Refusal{}},
		{"p(X) :- q(X).", "q(1).", "nobody(X)?", api.Refusal{}},
		{"p(X) :- q(X).", "q(1).", "nobody?", api.Refusal{}},
		{"p(X) :- q(X).", "r(1).", "r?", inQuery(api.ErrArity)},
		{"p(X) :- q(X).", "r(1).", "q(1, 2)?", inQuery(api.ErrArity)},
		{"p(X) :- not r(X).", "", "q_x?", inProgram(api.ErrSafe, 0)},
		{"p(X) :- q(X). q_p(X) :- q(X).", "", "p?", inProgram(api.ErrReserved, 1)},
		{"p(X) :- q(X). p(X) :- q_q(X).", "", "p?", inProgram(api.ErrReserved, 1)},
		{"p(X) :- q(X). p(X) :- q(X), not q_q(X).", "", "p?", inProgram(api.ErrReserved, 1)},
		{"q_ :- p.", "", "p?", inProgram(api.ErrReserved, 0)},
		{"p(X) :- q_q(Y).", "", "p?", inProgram(api.ErrReserved, 0)},
		{"qx(X) :- q(X), q1(X), not qq_(X), p_q_(X).", "q(1). q(q_). qa.", "q(q_)?", api.Refusal{}},
		{"p(X) :- p(X, X).", "", "p?", inProgram(api.ErrArity, 0)},
		{"a :- b. p(X) :- q(X), not q.", "", "p?", inProgram(api.ErrArity, 1)},
		{"a :- b. b :- not a(1). c(X) :- c(X, X).", "", "p?", inProgram(api.ErrArity, 1)},
		{"a(count(), sum(X)) :- b(X, _).", "a(1). b(1, 2).", "b?", inFacts(api.ErrArity, 0)},
		{"a(count(), sum(X)) :- b(X, _).", "a(1, 2). b(1, 2, 3).", "b?", inFacts(api.ErrArity, 1)},
		{"", "a(1). b. a(2). b(1). a.", "c?", inFacts(api.ErrArity, 3)},
		{"", "a(1). b. c(1). q_a.", "b(1)?", inFacts(api.ErrReserved, 3)},
		{"", "q_.", "b(1)?", inFacts(api.ErrReserved, 0)},
		{"", "", "q_?", inQuery(api.ErrReserved)},
		{"", "a.", "q_(X, Y)?", inQuery(api.ErrReserved)},
		{"", "a.", "a(X)?", inQuery(api.ErrArity)},
		{"", "a(1).", "a(_)?", api.Refusal{}},
	} {
		wantInput(t, inputOf(t, c.rules, c.facts, c.query), c.want)
	}
	wantInput(t, input{Query: atom("p", v("x"))}, inQuery(api.ErrTerm))
	wantInput(t, input{}, inQuery(api.ErrTerm))
	wantInput(t, input{Rules: []api.Rule{{}}}, inProgram(api.ErrTerm, 0))
	wantInput(t, input{Facts: []api.Fact{{}}}, inFacts(api.ErrValue, 0))
}

// P7.7: what may be, but is too large for a user, by one; and what is just not.
func TestTooLarge(t *testing.T) {
	x, w := v("X"), v("W")
	short, long := longest("n", 24), longest("n", 25)
	shortVar, longVar := v(longest("V", 24)), v(longest("V", 25))
	eight, nine := slices.Repeat([]api.Term{x}, 8), slices.Repeat([]api.Term{x}, 9)
	p := atom("p")
	for _, c := range [][2]api.Rule{
		{rule(short, nil), rule(long, nil)},
		{rule("a", nil, pos(short)), rule("a", nil, pos(long))},
		{rule("a", nil, pos("b"), not(short)), rule("a", nil, pos("b"), not(long))},
		{rule("a", nil, pos("b", shortVar)), rule("a", nil, pos("b", longVar))},
		{rule("a", head(shortVar), pos("b", shortVar)), rule("a", head(longVar), pos("b", longVar))},
		{rule("a", []api.Arg{{Agg: api.AggMin, Term: shortVar}}, eq(ex(shortVar), ex(n(1)))), rule("a", []api.Arg{{Agg: api.AggMin, Term: longVar}}, eq(ex(longVar), ex(n(1))))},
		{rule("a", nil, eq(ex(n(1)), ex(shortVar))), rule("a", nil, eq(ex(n(1)), ex(longVar)))},
		{rule("a", nil, pos("b", shortVar), cmp(op(api.OpNeg, op(api.OpNeg, ex(shortVar))), api.RelLt, ex(n(1)))), rule("a", nil, cmp(op(api.OpNeg, op(api.OpNeg, ex(longVar))), api.RelLt, ex(n(1))))},
		{rule("a", nil, pos("b", x), not("c", x)), rule("a", nil, pos("b", x), not("c", longVar))},
		{rule("a", head(eight...), pos("b", x)), rule("a", head(nine...), pos("b", x))},
		{rule("a", slices.Repeat([]api.Arg{{Agg: api.AggCount}}, 8)), rule("a", slices.Repeat([]api.Arg{{Agg: api.AggCount}}, 9))},
		{rule("a", nil, pos("b", eight...)), rule("a", nil, pos("b", nine...))},
		{rule("a", nil, pos("b", slices.Repeat([]api.Term{v("_")}, 8)...)), rule("a", nil, pos("b", slices.Repeat([]api.Term{v("_")}, 9)...))},
		{rule("a", nil, not("b", slices.Repeat([]api.Term{n(1)}, 8)...)), rule("a", nil, not("b", slices.Repeat([]api.Term{n(1)}, 9)...))},
		{rule("a", nil, slices.Repeat([]api.Literal{pos("b", x)}, 12)...), rule("a", nil, slices.Repeat([]api.Literal{pos("b", x)}, 13)...)},
		{rule("a", nil, slices.Repeat([]api.Literal{eq(ex(x), ex(n(1)))}, 12)...), rule("a", nil, slices.Repeat([]api.Literal{eq(ex(x), ex(n(1)))}, 16)...)},
		{rule("a", head(many(8)...), pos("b", many(8)...)), rule(longest("a", 120), head(many(24)...), slices.Repeat([]api.Literal{pos("b", many(24)...)}, 16)...)},
	} {
		wantInput(t, input{Rules: []api.Rule{rule("z", nil), c[0]}, Query: p}, api.Refusal{})
		wantInput(t, input{Rules: []api.Rule{rule("z", nil), c[1]}, Query: p}, inProgram(api.ErrSize, 1))
		wantInput(t, input{Rules: []api.Rule{rule("z", nil), c[1], c[1]}, Query: api.Atom{}}, inProgram(api.ErrSize, 1))
		unsafe, reserved := c[1], c[1]
		unsafe.Body = append(slices.Clone(c[1].Body), not("b", w))
		reserved.Body = append(slices.Clone(c[1].Body), pos("q_b"))
		if len(c[1].Body) < 16 && len(c[1].Head) < 24 {
			wantInput(t, input{Rules: []api.Rule{unsafe}, Query: p}, inProgram(api.ErrSize, 0))
			wantInput(t, input{Rules: []api.Rule{reserved}, Query: p}, inProgram(api.ErrSize, 0))
		}
	}
	values := slices.Repeat([]api.Value{text(strings.Repeat("a", 200))}, 9)
	wantInput(t, input{Facts: []api.Fact{fact(short), fact("b", values[:8]...)}, Query: p}, api.Refusal{})
	wantInput(t, input{Facts: []api.Fact{fact(short), fact(long)}, Query: p}, inFacts(api.ErrSize, 1))
	wantInput(t, input{Facts: []api.Fact{fact(short), fact("b", values...)}, Query: p}, inFacts(api.ErrSize, 1))
	wantInput(t, input{Facts: []api.Fact{fact(longest("a", 120), slices.Repeat(values[:1], 24)...)}, Query: p}, inFacts(api.ErrSize, 0))
	wantInput(t, input{Facts: []api.Fact{fact("q_"+long, values...)}, Query: p}, inFacts(api.ErrSize, 0))
	wantInput(t, input{Query: atom(short, append(slices.Clone(eight[:6]), shortVar, s(longest("a", 200)))...)}, api.Refusal{})
	wantInput(t, input{Query: atom(long)}, inQuery(api.ErrSize))
	wantInput(t, input{Query: atom("p", x, longVar)}, inQuery(api.ErrSize))
	wantInput(t, input{Query: atom("p", nine...)}, inQuery(api.ErrSize))
	wantInput(t, input{Query: atom("p", slices.Repeat([]api.Term{v("_")}, 24)...)}, inQuery(api.ErrSize))
	wantInput(t, input{Query: atom("p", slices.Repeat([]api.Term{v("_")}, 25)...)}, inQuery(api.ErrTerm))
	wantInput(t, input{Query: atom("q_"+long, nine...)}, inQuery(api.ErrSize))
}

// P7.7: how many rules and facts there may be.
func TestTooMany(t *testing.T) {
	good, p := rulesOf(t, "p(X) :- q(X)."), atom("p", v("X"))
	one := factsOf(t, "q(1).")
	wantInput(t, input{Rules: slices.Repeat(good, 500), Facts: slices.Repeat(one, 65536), Query: p}, api.Refusal{})
	wantInput(t, input{Rules: slices.Repeat(good, 501), Query: p}, inProgram(api.ErrSize, 0))
	wantInput(t, input{Rules: make([]api.Rule, 501), Query: p}, inProgram(api.ErrSize, 0))
	wantInput(t, input{Rules: make([]api.Rule, 500), Query: p}, inProgram(api.ErrTerm, 0))
	wantInput(t, input{Rules: good, Facts: slices.Repeat(one, 65537), Query: p}, inFacts(api.ErrSize, 0))
	wantInput(t, input{Facts: make([]api.Fact, 65537), Query: p}, inFacts(api.ErrSize, 0))
	wantInput(t, input{Facts: make([]api.Fact, 65536), Query: p}, inFacts(api.ErrValue, 0))
	wantInput(t, input{Rules: append(slices.Repeat(good, 499), rule("p", head(v("X")))), Query: p}, inProgram(api.ErrSafe, 499))
	wantInput(t, input{Rules: append(slices.Repeat(good, 499), rule("p", nil)), Query: p}, inProgram(api.ErrArity, 499))
	wantInput(t, input{Rules: append(slices.Repeat(good, 500), rule("p", nil)), Query: p}, inProgram(api.ErrSize, 0))
	wantInput(t, input{Facts: append(slices.Repeat(one, 65535), fact("q")), Query: p}, inFacts(api.ErrArity, 65535))
	wantInput(t, input{Rules: good, Facts: append(slices.Repeat(one, 65536), fact("q")), Query: atom("q")}, inFacts(api.ErrSize, 0))
	wantInput(t, input{Rules: good, Facts: slices.Repeat(one, 65536), Query: atom("q")}, inQuery(api.ErrArity))
}

// P7.6, P7.7: facts that are none as they may be.
func TestInputOfNoFacts(t *testing.T) {
	for _, f := range badFacts() {
		wantInput(t, input{Facts: []api.Fact{fact("a"), f, fact("q_")}, Query: atom("p")}, inFacts(api.ErrValue, 1))
	}
}

// reason is something that may be wrong with an input: where it stands in the order of P7.7 among those of its item, and how it is brought about there.
type reason struct {
	part  api.Part
	code  api.Errno
	order int // many ahead of the items, items one behind the other, what is wrong over all of them behind them
	rank  int // within an item
	spoil func(x *input, at int)
}

func inRule(code api.Errno, rank int, l api.Literal) reason {
	return reason{api.PartProgram, code, 1, rank, func(x *input, at int) { x.Rules[at].Body = append(x.Rules[at].Body, l) }}
}

// extend puts more behind a list, in memory of its own.
func extend[T any](l *[]T, more ...T) { *l = slices.Concat(*l, more) }

func reasons() []reason {
	x := v("X")
	one := num(1)
	return []reason{
		{api.PartProgram, api.ErrSize, 0, 0, func(in *input, _ int) {
			extend(&in.Rules, slices.Repeat(baseRules(), 167)...)
		}},
		inRule(api.ErrTerm, 0, pos("E", x)),
		inRule(api.ErrSize, 1, pos(longest("e", 25), x)),
		inRule(api.ErrReserved, 2, not("q_e", x)),
		inRule(api.ErrSafe, 3, not("z", v("W"))),
		{api.PartProgram, api.ErrArity, 2, 0, func(in *input, at int) {
			in.Rules[at].Body = append(in.Rules[at].Body, not("e", x, x))
		}},
		{api.PartFacts, api.ErrSize, 0, 0, func(in *input, _ int) {
			extend(&in.Facts, slices.Repeat([]api.Fact{fact("e", one)}, 65535)...)
		}},
		{api.PartFacts, api.ErrValue, 1, 0, func(in *input, at int) { extend(&in.Facts[at].Args, api.Value{}) }},
		{api.PartFacts, api.ErrSize, 1, 1, func(in *input, at int) {
			extend(&in.Facts[at].Args, slices.Repeat([]api.Value{one}, 8)...)
		}},
		{api.PartFacts, api.ErrReserved, 1, 2, func(in *input, at int) { in.Facts[at].Pred = "q_" + in.Facts[at].Pred }},
		{api.PartFacts, api.ErrArity, 1, 3, func(in *input, at int) { extend(&in.Facts[at].Args, one) }},
		{api.PartQuery, api.ErrTerm, 1, 0, func(in *input, _ int) { extend(&in.Query.Args, v("x")) }},
		{api.PartQuery, api.ErrSize, 1, 1, func(in *input, _ int) { extend(&in.Query.Args, slices.Repeat([]api.Term{x}, 8)...) }},
		{api.PartQuery, api.ErrReserved, 1, 2, func(in *input, _ int) { in.Query.Pred = "q_" + in.Query.Pred }},
		{api.PartQuery, api.ErrArity, 1, 3, func(in *input, _ int) { extend(&in.Query.Args, x) }},
	}
}

func baseRules() []api.Rule {
	x := v("X")
	return []api.Rule{rule("a", head(x), pos("e", x)), rule("b", head(x), pos("e", x), not("a", x)), rule("a", head(x), pos("b", x))}
}

func baseInput() input {
	return input{baseRules(), []api.Fact{fact("e", num(1)), fact("e", num(2)), fact("a", num(1))}, atom("e", v("X"))}
}

// placed is a reason at an item.
type placed struct {
	reason
	at int
}

// ahead: is p told ahead of q?
func (p placed) ahead(q placed) bool {
	a, b := []int{int(p.part), p.order, p.told().At, p.rank}, []int{int(q.part), q.order, q.told().At, q.rank}
	return slices.Compare(a, b) < 0
}

func (p placed) told() api.Refusal {
	out := api.Refusal{Part: p.part, Code: p.code, At: p.at}
	if p.order == 0 || p.part == api.PartQuery {
		out.At = 0
	}
	return out
}

// wantFirst brings all reasons about, and asks for the first of them.
func wantFirst(t *testing.T, l ...placed) {
	t.Helper()
	x := baseInput()
	first := l[0]
	for _, p := range l {
		p.spoil(&x, p.at)
		if p.ahead(first) {
			first = p
		}
	}
	if got := x.ask(); got != first.told() {
		t.Fatalf("Input(%s) = %v, want %v", brief(x), got, first.told())
	}
}

// P7.7: every reason by itself, and every pair of them, at every pair of items.
func TestFirstOfTwoReasons(t *testing.T) {
	wantInput(t, baseInput(), api.Refusal{})
	var all []placed
	for _, r := range reasons() {
		for at := range 3 {
			all = append(all, placed{r, at})
		}
	}
	for _, a := range all {
		wantFirst(t, a)
		for _, b := range all {
			if a.part != b.part || a.code != b.code || a.order != b.order || a.at != b.at {
				wantFirst(t, a, b)
			}
		}
	}
}

// P7.7: several reasons at one time.
func TestFirstOfManyReasons(t *testing.T) {
	d := dice(1)
	all := reasons()
	for range 3000 {
		var l []placed
		for i, r := range all {
			if d.below(4) == 0 && (i != 6 || d.below(20) == 0) {
				l = append(l, placed{r, d.below(3)})
			}
		}
		if len(l) > 0 {
			wantFirst(t, l...)
		}
	}
}
