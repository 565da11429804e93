package change_test

import (
	"slices"
	"testing"

	"pedigree/api"
	"pedigree/change"
	"pedigree/check"
	"pedigree/depend"
	"pedigree/term"
)

// dice are numbers that look thrown and are the same in each run.
type dice uint64

func (d *dice) below(n int) int {
	*d = *d*6364136223846793005 + 1442695040888963407
	return int(uint64(*d>>33) % uint64(n))
}

func (d *dice) one(l ...string) string { return l[d.below(len(l))] }

func (d *dice) pred(l []api.Pred) api.Pred { return l[d.below(len(l))] }

// given are the predicates of wild facts and bodies that mostly have no rules; of ghost there are mostly no facts.
func given() []api.Pred {
	return []api.Pred{{Name: "e", Arity: 2}, {Name: "e", Arity: 2}, {Name: "n", Arity: 1}, {Name: "g"}, {Name: "ghost", Arity: 1}}
}

// ruled are those of wild rules, which mostly look strictly at those ahead of them alone.
func ruled() []api.Pred {
	return []api.Pred{{Name: "t", Arity: 2}, {Name: "a", Arity: 1}, {Name: "b", Arity: 1}, {Name: "u", Arity: 2}, {Name: "c", Arity: 1}, {Name: "z"}, {Name: "q_w", Arity: 2}}
}

func (d *dice) value() api.Value {
	if d.below(12) == 0 {
		return text(d.one("", "a", "1", "ab"))
	}
	return num(int64(d.below(4) - 1))
}

// factOf is any fact of a predicate.
func (d *dice) factOf(p api.Pred) api.Fact {
	f := api.Fact{Pred: p.Name}
	for range p.Arity {
		f.Args = append(f.Args, d.value())
	}
	return f
}

func (d *dice) facts(most int) []api.Fact {
	var out []api.Fact
	for range d.below(most + 1) {
		switch d.below(12) {
		case 0, 1:
			out = append(out, d.factOf(d.pred(ruled())))
		case 2:
			out = append(out, d.factOf(given()[4]))
		default:
			out = append(out, d.factOf(d.pred(given()[:4])))
		}
	}
	return out
}

func (d *dice) term() api.Term {
	switch d.below(9) {
	case 0:
		return api.Term{Val: d.value()}
	case 1, 2:
		return v("_")
	}
	return v(d.one("X", "Y", "Z"))
}

func (d *dice) expr(deep int) api.Expr {
	if deep == 0 || d.below(2) == 0 {
		if d.below(4) == 0 {
			return ex(api.Term{Val: d.value()})
		}
		return ex(v(d.one("X", "Y", "Z", "W")))
	}
	switch o := api.OpNeg + api.Op(d.below(int(api.OpBack))); o {
	case api.OpNeg, api.OpLen, api.OpChars, api.OpBack:
		return op(o, d.expr(deep-1))
	default:
		return op(o, d.expr(deep-1), d.expr(deep-1))
	}
}

func (d *dice) atom(p api.Pred) api.Atom {
	a := api.Atom{Pred: p.Name}
	for range p.Arity {
		a.Args = append(a.Args, d.term())
	}
	return a
}

// seen is a predicate at which a rule for the i-th ruled one looks; strictly: mostly one ahead of it.
func (d *dice) seen(i int, strictly bool) api.Pred {
	switch {
	case i == 0 || d.below(3) == 0:
		return d.pred(given())
	case d.below(25) == 0:
		return d.pred(ruled())
	case strictly:
		return d.pred(ruled()[max(0, i-2):i])
	}
	return d.pred(ruled()[max(0, i-2) : i+1])
}

func (d *dice) literal(i int, strictly bool) api.Literal {
	switch d.below(9) {
	case 0, 1:
		return api.Literal{Kind: api.LNot, Atom: d.atom(d.seen(i, d.below(10) > 0))}
	case 2:
		return cmp(d.expr(1), api.RelEq+api.Rel(d.below(6)), d.expr(1))
	case 3:
		return cmp(ex(v(d.one("Z", "W"))), api.RelEq, d.expr(2))
	}
	return api.Literal{Kind: api.LPos, Atom: d.atom(d.seen(i, strictly))}
}

func (d *dice) arg(names []string, aggregates bool) api.Arg {
	if aggregates && d.below(2) == 0 {
		if len(names) == 0 || d.below(2) == 0 {
			return api.Arg{Agg: api.AggCount}
		}
		return api.Arg{Agg: api.AggSum + api.Agg(d.below(3)), Term: v(d.one(names...))}
	}
	if len(names) == 0 || d.below(6) == 0 {
		return api.Arg{Term: api.Term{Val: d.value()}}
	}
	return api.Arg{Term: v(d.one(names...))}
}

// rule is one that may be used, for the i-th ruled predicate.
func (d *dice) rule(i int) api.Rule {
	for {
		r := api.Rule{Pred: ruled()[i].Name}
		aggregates := d.below(5) == 0
		strictly := aggregates || d.below(3) > 0
		for range d.below(4) {
			r.Body = append(r.Body, d.literal(i, strictly))
		}
		names := term.RuleVars(r)
		for range ruled()[i].Arity {
			r.Head = append(r.Head, d.arg(names, aggregates))
		}
		if check.Rule(r) == api.OK {
			return r
		}
	}
}

// linked is a rule by which facts come from others step by step.
func (d *dice) linked() api.Rule {
	name := d.one("t", "t", "u")
	return api.Rule{Pred: name, Head: head(v("X"), v("Z")), Body: []api.Literal{lit(api.LPos, d.one("e", name), v("X"), v("Y")), lit(api.LPos, d.one("e", name), v("Y"), v("Z"))}}
}

func (d *dice) program(most int) api.Program {
	var out api.Program
	first := d.below(len(ruled()))
	for i := range d.below(most + 1) {
		if d.below(5) == 0 {
			out.Rules = append(out.Rules, d.linked())
		} else {
			out.Rules = append(out.Rules, d.rule((first+i)%len(ruled())))
		}
	}
	return out
}

// leveled is a program that has levels.
func (d *dice) leveled(most int) api.Program {
	for {
		p := d.program(most)
		if _, _, err := depend.Levels(p); err == api.OK {
			return p
		}
	}
}

// some are facts of a list, any of them, and any number of times.
func (d *dice) some(l []api.Fact, most int) []api.Fact {
	var out []api.Fact
	for range d.below(most+1) * min(len(l), 1) {
		out = append(out, l[d.below(len(l))])
	}
	return out
}

// turnOf is what a turn may be told: facts that are there, others, and what stands in both lists.
func (d *dice) turnOf(s *slow) (add, remove []api.Fact) {
	if d.below(4) > 0 {
		add = append(d.facts(3), d.some(s.model, 1)...)
	}
	if d.below(4) > 0 {
		remove = append(d.some(s.base, 4), d.some(s.model, 1)...)
		remove = append(remove, d.facts(1)...)
	}
	if d.below(6) == 0 {
		add = append(add, d.some(remove, 2)...)
	}
	return add, remove
}

// odd is a fact that is none as it may be, or has another number of columns than its predicate mostly has.
func (d *dice) odd() api.Fact {
	switch d.below(4) {
	case 0:
		return fact(d.one("", "E", "not", "_", "e f"))
	case 1:
		return fact("n", api.Value{Kind: api.Kind(d.below(6) - 1), Num: int64(d.below(2)), Text: d.one("", "a")})
	case 2:
		return fact("new", slices.Repeat([]api.Value{num(1)}, d.below(3))...)
	}
	return d.factOf(api.Pred{Name: d.one("e", "n", "g", "ghost", "t", "z", "c"), Arity: d.below(4)})
}

// greatest is the greatest level that facts have.
func greatest(p api.Program, l []api.Fact) int32 {
	out := int32(0)
	list, _, _ := depend.Levels(p)
	for _, x := range list {
		if slices.ContainsFunc(l, func(f api.Fact) bool { return f.Pred == x.Pred }) {
			out = max(out, x.N)
		}
	}
	return out
}

// P24.3 to P24.7: any programs over any facts, with any turns and clones.
func TestTurnsOfAnything(t *testing.T) {
	d := dice(1)
	turns, added, removed, restored := 0, 0, 0, 0
	levels := map[int32]int{}
	for range 1500 {
		p, l := d.leveled(8+d.below(20)), d.facts(20)
		views, slows := []*change.View{mustNew(t, p, l)}, []*slow{newSlow(t, p, l)}
		if whole(views[0]) != slows[0].whole() {
			t.Fatalf("New(%s, %s): %s; want %s", showProgram(p), show(l), whole(views[0]), slows[0].whole())
		}
		for range 2 + d.below(6) {
			i := d.below(len(views))
			if d.below(5) == 0 {
				views, slows = append(views, views[i].Clone()), append(slows, slows[i].clone())
			}
			add, remove := d.turnOf(slows[i])
			diff, _ := both(t, views[i], slows[i], add, remove)
			turns, added, removed = turns+1, added+min(len(diff.Added), 1), removed+min(len(diff.Removed), 1)
			restored += min(len(slows[i].doubted)-len(diff.Removed), 1)
			levels[greatest(p, slows[i].doubted)]++
		}
		for i := range views {
			if whole(views[i]) != slows[i].whole() {
				t.Fatalf("%s: a view was turned by another one's turn: %s; want %s", showProgram(p), whole(views[i]), slows[i].whole())
			}
		}
	}
	if added < turns/2 || removed < turns/2 || restored < turns/8 || levels[1] < 500 || levels[2] < 150 || levels[3] < 30 {
		t.Errorf("of %d turns %d added, %d removed, %d put back; by levels %v", turns, added, removed, restored, levels)
	}
}

// P24.4, R1: turns with facts of which some are none, or have columns that do not fit; behind a refused one the view is as it was, and goes on.
func TestOddTurns(t *testing.T) {
	d := dice(2)
	codes := map[api.Errno]int{}
	for range 500 {
		p, l := d.leveled(10), d.facts(12)
		x, s := mustNew(t, p, l), newSlow(t, p, l)
		for range 8 {
			add, remove := d.turnOf(s)
			if d.below(2) == 0 {
				add = slices.Insert(add, d.below(len(add)+1), d.odd())
			}
			if d.below(2) == 0 {
				remove = slices.Insert(remove, d.below(len(remove)+1), d.odd())
			}
			_, code := both(t, x, s, add, remove)
			codes[code]++
		}
	}
	if codes[api.OK] < 1500 || codes[api.ErrValue] < 300 || codes[api.ErrArity] < 300 || len(codes) != 3 {
		t.Errorf("the turns' errors, and how often they were told: %v", codes)
	}
}
