package engine_test

import (
	"slices"
	"strings"
	"testing"

	"pedigree/api"
	"pedigree/check"
	"pedigree/depend"
	"pedigree/engine"
	"pedigree/print"
	"pedigree/term"
)

// dice are numbers that look thrown and are the same in each run.
type dice uint64

func (d *dice) below(n int) int {
	*d = *d*6364136223846793005 + 1442695040888963407
	return int(uint64(*d>>33) % uint64(n))
}

func (d *dice) one(l ...string) string { return l[d.below(len(l))] }

// kind is a predicate with a letter for each column: n of numbers, t of texts.
type kind struct{ name, columns string }

func (d *dice) kind(l []kind) kind { return l[d.below(len(l))] }

// given are the predicates of wild facts and bodies that mostly have no rules; of ghost there are no facts.
func given() []kind {
	return []kind{{"e", "nn"}, {"e", "nn"}, {"e", "nn"}, {"n", "n"}, {"w", "t"}, {"m", "nt"}, {"g", ""}, {"ghost", "n"}}
}

// ruled are those of wild rules, which mostly look strictly at those ahead of them alone.
func ruled() []kind {
	return []kind{{"t", "nn"}, {"a", "n"}, {"b", "n"}, {"u", "nt"}, {"s", "nn"}, {"c", "n"}, {"k", "nnn"}, {"z", ""}, {"x", "t"}}
}

// column is mostly the letter that is handed in; seldom it is the other one, so that something doesn't fit.
func (d *dice) column(c byte) byte {
	if d.below(25) == 0 {
		return "nt"[d.below(2)]
	}
	return c
}

func (d *dice) value(c byte) api.Value {
	if d.column(c) == 't' {
		return text(d.one("", "a", "A b", "\n"))
	}
	return num(int64(d.below(4) - 1))
}

func (d *dice) factOf(k kind) api.Fact {
	f := api.Fact{Pred: k.name}
	for i := range len(k.columns) {
		f.Args = append(f.Args, d.value(k.columns[i]))
	}
	return f
}

func (d *dice) facts(most int) []api.Fact {
	var out []api.Fact
	for range d.below(most + 1) {
		if d.below(6) == 0 {
			out = append(out, d.factOf(d.kind(ruled())))
		} else {
			out = append(out, d.factOf(d.kind(given()[:7])))
		}
	}
	return out
}

func (d *dice) variable(c byte) string {
	if d.column(c) == 't' {
		return d.one("S", "T", "V0")
	}
	return d.one("X", "Y", "Z")
}

func (d *dice) term(c byte) api.Term {
	switch d.below(16) {
	case 0:
		return api.Term{Val: d.value(c)}
	case 1, 2:
		return v("_")
	}
	return v(d.variable(c))
}

func (d *dice) expr(c byte, deep int) api.Expr {
	if deep == 0 || d.below(2) == 0 {
		if d.below(3) == 0 {
			return ex(api.Term{Val: d.value(c)})
		}
		return ex(v(d.variable(c)))
	}
	if c == 't' {
		if d.below(3) == 0 {
			return op(api.OpBack, d.expr('t', deep-1))
		}
		return op(api.OpCat, d.expr('t', deep-1), d.expr('t', deep-1))
	}
	switch d.below(7) {
	case 0:
		return op(api.OpNeg, d.expr('n', deep-1))
	case 1:
		return op(api.OpLen, d.expr('t', deep-1))
	}
	return op(api.OpAdd+api.Op(d.below(5)), d.expr('n', deep-1), d.expr('n', deep-1))
}

func (d *dice) compared() api.Literal {
	c := "nnt"[d.below(3)]
	if d.below(2) == 0 {
		return cmp(ex(v(d.variable(c))), api.RelEq, d.expr(c, 2))
	}
	return cmp(d.expr(c, 1), api.RelEq+api.Rel(d.below(6)), d.expr(c, 1))
}

func (d *dice) atom(k kind) api.Atom {
	a := api.Atom{Pred: k.name}
	for i := range len(k.columns) {
		a.Args = append(a.Args, d.term(k.columns[i]))
	}
	return a
}

// seen is a predicate at which a rule for the i-th ruled one looks; strictly: mostly one ahead of it.
func (d *dice) seen(i int, strictly bool) kind {
	switch {
	case i == 0 && strictly || d.below(3) == 0:
		return d.kind(given())
	case d.below(8) == 0:
		return d.kind(ruled())
	case strictly:
		return d.kind(ruled()[max(0, i-3):i])
	}
	return d.kind(ruled()[max(0, i-3) : i+1])
}

// body limits all its variables.
func (d *dice) body(i int, strictly bool) []api.Literal {
	for {
		var out []api.Literal
		for range 1 + d.below(4) {
			switch d.below(8) {
			case 0:
				out = append(out, api.Literal{Kind: api.LNot, Atom: d.atom(d.seen(i, d.below(3) > 0))})
			case 1, 2:
				out = append(out, d.compared())
			default:
				out = append(out, api.Literal{Kind: api.LPos, Atom: d.atom(d.seen(i, strictly))})
			}
		}
		if check.Rule(api.Rule{Pred: "p", Body: out}) == api.OK {
			return out
		}
	}
}

// arg is one for a column, out of the body's variables.
func (d *dice) arg(c byte, names []string, aggregates bool) api.Arg {
	own := slices.DeleteFunc(slices.Clone(names), func(name string) bool { return strings.Contains("S T V0", name) != (c == 't') })
	switch {
	case aggregates && c == 'n' && d.below(2) == 0:
		if len(own) == 0 || d.below(2) == 0 {
			return api.Arg{Agg: api.AggCount}
		}
		return api.Arg{Agg: api.AggSum + api.Agg(d.below(3)), Term: v(d.one(own...))}
	case len(own) == 0 || d.below(8) == 0:
		return api.Arg{Term: api.Term{Val: d.value(c)}}
	}
	return api.Arg{Term: v(d.one(own...))}
}

// rule may be used; it is for the i-th ruled predicate.
func (d *dice) rule(i int) api.Rule {
	k := ruled()[i]
	aggregates := d.below(4) == 0
	r := api.Rule{Pred: k.name, Body: d.body(i, aggregates && d.below(3) > 0 || d.below(2) == 0)}
	if d.below(15) == 0 {
		r.Body = nil
	}
	names := term.RuleVars(r)
	for j := range len(k.columns) {
		r.Head = append(r.Head, d.arg(k.columns[j], names, aggregates))
	}
	return r
}

// linked is a rule by which facts come from others step by step.
func (d *dice) linked() api.Rule {
	name := d.one("t", "t", "s")
	return api.Rule{Pred: name, Head: head(v("X"), v("Z")), Body: []api.Literal{pos(d.one("e", name), v("X"), v("Y")), pos(d.one("e", name, "e"), v("Y"), v("Z"))}}
}

func (d *dice) program(most int) api.Program {
	var out []api.Rule
	first := d.below(len(ruled()))
	for i := range d.below(most + 1) {
		if d.below(4) == 0 {
			out = append(out, d.linked())
		} else {
			out = append(out, d.rule((first+i/2)%len(ruled())))
		}
	}
	return api.Program{Rules: out}
}

// query asks mostly for a predicate of the rules.
func (d *dice) query(p api.Program) api.Atom {
	k := d.kind(append(given(), ruled()...))
	if len(p.Rules) > 0 && d.below(5) > 0 {
		pred := p.Rules[d.below(len(p.Rules))].Pred
		k = ruled()[slices.IndexFunc(ruled(), func(k kind) bool { return k.name == pred })]
	}
	q := d.atom(k)
	for i := range q.Args {
		if d.below(4) == 0 {
			q.Args[i] = api.Term{Val: d.value(k.columns[i])}
		}
	}
	return q
}

// fitting are a program and facts that fit.
func (d *dice) fitting(rules, facts int) (api.Program, []api.Fact) {
	for {
		p, l := d.program(rules), d.facts(facts)
		if slowFit(p, l) == fine() {
			return p, l
		}
	}
}

// written are a program, facts and a query as sources.
func written(p api.Program, l []api.Fact, q api.Atom) (string, string, string) {
	program, _ := print.Program(p)
	facts, _ := print.Facts(l)
	query, _ := print.Query(q)
	return program, facts, query
}

// told writes what Solve answers.
func told(l [][]api.Value, r api.Refusal) string {
	out := showTuples(l)
	if r != fine() {
		out += " refused: part " + string('0'+rune(r.Part)) + ", " + r.Code.Error()
	}
	return out
}

// P27.2, P27.4, P0.1: what fits is answered, and alike in each way.
func TestSolveOfAnything(t *testing.T) {
	d := dice(1)
	none, some, directed, mixed := 0, 0, 0, 0
	for range 2500 {
		p, l := d.fitting(12, 24)
		q := d.query(p)
		want, x := slowSolve(p, l, q, api.WayModel)
		if x != fine() {
			continue
		}
		for _, w := range ways() {
			if got, r := engine.Solve(p, l, q, w); r != fine() || showTuples(got) != showTuples(want) {
				a, b, c := written(p, l, q)
				t.Fatalf("Solve by %d of\n%s\n%s\n%s: %s, %v; want %s", w, a, b, c, showTuples(got), r, showTuples(want))
			}
		}
		first, plain := depend.Split(p)
		if slices.ContainsFunc(plain.Rules, func(r api.Rule) bool { return r.Pred == q.Pred }) {
			directed++
			if len(first.Rules) > 0 {
				mixed++
			}
		}
		if len(want) == 0 {
			none++
		} else {
			some++
		}
	}
	if none < 800 || some < 800 || directed < 1200 || mixed < 350 {
		t.Errorf("%d without answers, %d with, %d directed, %d with something ahead", none, some, directed, mixed)
	}
}

// P27.3, P27.5, P27.7: texts are answered as what they say, and explained pass by pass.
func TestTextsOfAnything(t *testing.T) {
	d := dice(2)
	lines, adorned, pruned, ahead := 0, 0, 0, 0
	for range 2500 {
		p, l := d.fitting(12, 24)
		q := d.query(p)
		a, b, c := written(p, l, q)
		w := ways()[d.below(4)]
		want, x := slowAnswer(a, b, c, w)
		if got, r := engine.Answer(a, b, c, w); r != x || !slices.Equal(got, want) {
			t.Fatalf("Answer(%q, %q, %q, %d) = %s, %v; want %s, %v", a, b, c, w, got, r, want, x)
		}
		lines += len(want)
		want, x = slowExplain(a, c)
		got, r := engine.Explain(a, c)
		if r != x || !slices.Equal(got, want) {
			t.Fatalf("Explain(%q, %q) = %v\n%s\nwant %v\n%s", a, c, r, strings.Join(got, "\n"), x, strings.Join(want, "\n"))
		}
		if r != fine() {
			continue
		}
		tale := sections(t, got)
		if len(tale.adorned) > 0 {
			adorned++
		}
		if len(tale.pruned) < len(tale.plain) {
			pruned++
		}
		if len(tale.ahead) > 0 {
			ahead++
		}
	}
	if lines < 1000 || adorned < 700 || pruned < 700 || ahead < 700 {
		t.Errorf("%d lines, %d adorned, %d pruned, %d with something ahead", lines, adorned, pruned, ahead)
	}
}
