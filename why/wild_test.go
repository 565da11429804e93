package why_test

import (
	"slices"
	"testing"

	"pedigree/api"
	"pedigree/check"
	"pedigree/depend"
	"pedigree/term"
	"pedigree/value"
	"pedigree/why"
)

// dice are numbers that look thrown and are the same in each run.
type dice uint64

func (d *dice) below(n int) int {
	*d = *d*6364136223846793005 + 1442695040888963407
	return int(uint64(*d>>33) % uint64(n))
}

func (d *dice) one(l ...string) string { return l[d.below(len(l))] }

func (d *dice) pred(l []api.Pred) api.Pred { return l[d.below(len(l))] }

// base are the predicates of wild facts and bodies that mostly have no rules; of ghost there are no facts.
func base() []api.Pred {
	return []api.Pred{{Name: "e", Arity: 2}, {Name: "e", Arity: 2}, {Name: "n", Arity: 1}, {Name: "g"}, {Name: "ghost", Arity: 1}}
}

// ruled are those of wild rules, which mostly look strictly at those ahead of them alone.
func ruled() []api.Pred {
	return []api.Pred{{Name: "t", Arity: 2}, {Name: "a", Arity: 1}, {Name: "b", Arity: 1}, {Name: "u", Arity: 2}, {Name: "c", Arity: 1}, {Name: "z"}, {Name: "q_w", Arity: 2}}
}

func (d *dice) value() api.Value {
	if d.below(12) == 0 {
		return text(d.one("", "a", "1", "ab"))
	}
	return num(int64(d.below(4) - 1))
}

// factOf is any fact of a predicate.
func (d *dice) factOf(p api.Pred) api.Fact {
	f := api.Fact{Pred: p.Name}
	for range p.Arity {
		f.Args = append(f.Args, d.value())
	}
	return f
}

func (d *dice) facts(most int) []api.Fact {
	var out []api.Fact
	for range d.below(most + 1) {
		if d.below(6) == 0 {
			out = append(out, d.factOf(d.pred(ruled())))
		} else {
			out = append(out, d.factOf(d.pred(base()[:4])))
		}
	}
	return out
}

func (d *dice) term() api.Term {
	switch d.below(9) {
	case 0:
		return api.Term{Val: d.value()}
	case 1, 2:
		return v("_")
	}
	return v(d.one("X", "Y", "Z"))
}

func (d *dice) expr(deep int) api.Expr {
	if deep == 0 || d.below(2) == 0 {
		if d.below(4) == 0 {
			return ex(api.Term{Val: d.value()})
		}
		return ex(v(d.one("X", "Y", "Z", "W")))
	}
	switch o := api.OpNeg + api.Op(d.below(int(api.OpBack))); o {
	case api.OpNeg, api.OpLen, api.OpChars, api.OpBack:
		return op(o, d.expr(deep-1))
	default:
		return op(o, d.expr(deep-1), d.expr(deep-1))
	}
}

func (d *dice) atom(p api.Pred) api.Atom {
	a := api.Atom{Pred: p.Name}
	for range p.Arity {
		a.Args = append(a.Args, d.term())
	}
	return a
}

// seen is a predicate at which a rule for the i-th ruled one looks; strictly: mostly one ahead of it.
func (d *dice) seen(i int, strictly bool) api.Pred {
	switch {
	case i == 0 || d.below(3) == 0:
		return d.pred(base())
	case d.below(25) == 0:
		return d.pred(ruled())
	case strictly:
		return d.pred(ruled()[max(0, i-2):i])
	}
	return d.pred(ruled()[max(0, i-2) : i+1])
}

func (d *dice) literal(i int, strictly bool) api.Literal {
	switch d.below(9) {
	case 0:
		return api.Literal{Kind: api.LNot, Atom: d.atom(d.seen(i, d.below(10) > 0))}
	case 1:
		return cmp(d.expr(1), api.RelEq+api.Rel(d.below(6)), d.expr(1))
	case 2:
		return cmp(ex(v(d.one("Z", "W"))), api.RelEq, d.expr(2))
	}
	return api.Literal{Kind: api.LPos, Atom: d.atom(d.seen(i, strictly))}
}

func (d *dice) arg(names []string, aggregates bool) api.Arg {
	if aggregates && d.below(2) == 0 {
		if len(names) == 0 || d.below(2) == 0 {
			return api.Arg{Agg: api.AggCount}
		}
		return api.Arg{Agg: api.AggSum + api.Agg(d.below(3)), Term: v(d.one(names...))}
	}
	if len(names) == 0 || d.below(6) == 0 {
		return api.Arg{Term: api.Term{Val: d.value()}}
	}
	return api.Arg{Term: v(d.one(names...))}
}

// rule is one that may be used, for the i-th ruled predicate.
func (d *dice) rule(i int) api.Rule {
	for {
		r := api.Rule{Pred: ruled()[i].Name}
		aggregates := d.below(4) == 0
		strictly := aggregates || d.below(3) > 0
		for range d.below(4) {
			r.Body = append(r.Body, d.literal(i, strictly))
		}
		names := term.RuleVars(r)
		for range ruled()[i].Arity {
			r.Head = append(r.Head, d.arg(names, aggregates))
		}
		if check.Rule(r) == api.OK {
			return r
		}
	}
}

// linked is a rule by which facts come from others step by step.
func (d *dice) linked() api.Rule {
	name := d.one("t", "t", "u")
	return api.Rule{Pred: name, Head: head(v("X"), v("Z")), Body: []api.Literal{pos(d.one("e", name), v("X"), v("Y")), pos(d.one("e", name), v("Y"), v("Z"))}}
}

func (d *dice) program(most int) api.Program {
	var out api.Program
	first := d.below(len(ruled()))
	for i := range d.below(most + 1) {
		if d.below(5) == 0 {
			out.Rules = append(out.Rules, d.linked())
		} else {
			out.Rules = append(out.Rules, d.rule((first+i)%len(ruled())))
		}
	}
	return out
}

// leveled is a program that has levels.
func (d *dice) leveled(most int) api.Program {
	for {
		p := d.program(most)
		if _, _, err := depend.Levels(p); err == api.OK {
			return p
		}
	}
}

func copyProof(x api.Proof) api.Proof {
	x.Fact.Args, x.Binds = slices.Clone(x.Fact.Args), slices.Clone(x.Binds)
	x.Kids = slices.Clone(x.Kids)
	for i := range x.Kids {
		x.Kids[i] = copyProof(x.Kids[i])
	}
	return x
}

// P23.2, P23.3: of any programs and facts, each fact that holds, and some that don't.
func TestWhyOfAnything(t *testing.T) {
	d := dice(1)
	heights, kinds, absent := map[int]int{}, map[api.ProofKind]int{}, 0
	for range 800 {
		p, l := d.leveled(16), d.facts(20)
		s := newSlow(t, p, l)
		for i, f := range s.model {
			x, want := mustWhy(t, p, l, f), s.told(f)
			if !isSame(x, want) {
				t.Fatalf("%s: %s\nwant %s", called(p, l, f), showProof(x), showProof(want))
			}
			if h := why.Height(x); h != s.heights[i] {
				t.Fatalf("%s: of height %d; want %d", called(p, l, f), h, s.heights[i])
			}
			heights[s.heights[i]]++
			kinds[x.Kind]++
		}
		for range 5 {
			if f := d.factOf(d.pred(append(base(), ruled()...))); s.place(f) < 0 {
				wantCode(t, p, l, f, api.ErrNoProof)
				absent++
			}
		}
	}
	if heights[1] < 3000 || heights[2] < 2000 || heights[3] < 600 || heights[4] < 150 || heights[5] < 30 || kinds[api.ProofRule] < 4000 || absent < 2500 {
		t.Errorf("heights %v, kinds %v, %d absent", heights, kinds, absent)
	}
}

// part answers any part of a proof.
func (d *dice) part(x *api.Proof) *api.Proof {
	for len(x.Kids) > 0 && d.below(4) > 0 {
		x = &x.Kids[d.below(len(x.Kids))]
	}
	return x
}

// turned is a proof in which one thing is another.
func (d *dice) turned(x api.Proof, others []api.Fact, told func(api.Fact) api.Proof) api.Proof {
	x = copyProof(x)
	y := d.part(&x)
	switch d.below(13) {
	case 0:
		y.Kind = api.ProofKind(d.below(7) - 1)
	case 1:
		y.Fact.Pred = d.one("e", "n", "t", "a", "")
	case 2:
		y.Fact.Args = append(y.Fact.Args, d.value())
	case 3:
		if len(y.Fact.Args) > 0 {
			y.Fact.Args[d.below(len(y.Fact.Args))] = d.value()
		}
	case 4:
		y.Rule += d.below(3) - 1
	case 5:
		y.Binds = append(y.Binds, bind("X", d.value()))
	case 6:
		if n := len(y.Binds); n > 0 {
			y.Binds = slices.Delete(y.Binds, n-1, n)
		}
	case 7:
		if len(y.Binds) > 0 {
			y.Binds[d.below(len(y.Binds))].Val = d.value()
		}
	case 8:
		if len(y.Binds) > 0 {
			y.Binds[d.below(len(y.Binds))].Var = d.one("X", "Y", "Z", "x")
		}
	case 9:
		if n := len(y.Kids); n > 0 {
			y.Kids = slices.Delete(y.Kids, n-1, n)
		}
	case 10:
		y.Kids = append(y.Kids, api.Proof{Kind: api.ProofTrue})
	case 11:
		if n := len(y.Kids); n > 1 {
			i, j := d.below(n), d.below(n)
			y.Kids[i], y.Kids[j] = y.Kids[j], y.Kids[i]
		}
	case 12:
		*y = told(others[d.below(len(others))])
	}
	return x
}

// P23.4: proofs that are turned in one thing or two.
func TestCheckOfAnything(t *testing.T) {
	d := dice(2)
	seen := map[bool]int{}
	for range 500 {
		p, l := d.leveled(16), d.facts(20)
		s := newSlow(t, p, l)
		if len(s.model) == 0 {
			continue
		}
		for range 25 {
			x := s.told(s.model[d.below(len(s.model))])
			if x.Kind == api.ProofGiven && d.below(4) > 0 {
				continue
			}
			wantCheck(t, p, l, x, true)
			x = d.turned(x, s.model, s.told)
			if d.below(3) == 0 {
				x = d.turned(x, s.model, s.told)
			}
			wantCheck(t, p, l, x, s.isProof(x))
			seen[s.isProof(x)]++
		}
	}
	if seen[true] < 1500 || seen[false] < 4000 {
		t.Errorf("Check was true and false so often: %v", seen)
	}
}

// anyProof is a proof of a fact that need not be a low one.
func (d *dice) anyProof(s *slow, f api.Fact, deep int) api.Proof {
	type choice struct {
		rule int
		way  slowWay
	}
	var all []choice
	for i, ways := range s.ways {
		for _, w := range ways {
			if value.CompareFacts(w.fact, f) == 0 {
				all = append(all, choice{i, w})
			}
		}
	}
	if deep == 0 || len(all) == 0 {
		return s.told(f)
	}
	c := all[d.below(len(all))]
	out := api.Proof{Kind: api.ProofRule, Fact: f, Rule: c.rule, Binds: c.way.binds}
	for _, x := range c.way.solutions {
		for _, l := range s.p.Rules[c.rule].Body {
			out.Kids = append(out.Kids, d.anyKid(s, l, x, deep))
		}
	}
	return out
}

func (d *dice) anyKid(s *slow, l api.Literal, solution []api.Bind, deep int) api.Proof {
	if l.Kind != api.LPos {
		return leaf(l, solution)
	}
	var facts []api.Fact
	for _, f := range s.model {
		if _, ok := term.Match(under(l.Atom, solution), f); ok {
			facts = append(facts, f)
		}
	}
	return d.anyProof(s, facts[d.below(len(facts))], deep-1)
}

// P23.4, P23.7: any proof is taken, and is no lower than the one that is told; what is checked has a fact of the model, and uses given ones.
func TestAnyProof(t *testing.T) {
	d := dice(4)
	higher, over := 0, 0
	for range 500 {
		p, l := d.leveled(16), d.facts(20)
		s := newSlow(t, p, l)
		for i, f := range s.model {
			x := d.anyProof(s, f, 1+d.below(4))
			wantCheck(t, p, l, x, true)
			if h := why.Height(x); h < s.heights[i] {
				t.Fatalf("%s: of height %d, and one of %d is a proof", called(p, l, f), s.heights[i], h)
			} else if h > s.heights[i] {
				higher++
			}
			for _, g := range why.Uses(x) {
				if !s.isGiven(g) {
					t.Fatalf("%s uses %s", showProof(x), show(g))
				}
			}
			if isPositive(p) {
				over++
				mustWhy(t, p, why.Uses(x), f)
			}
		}
	}
	if higher < 500 || over < 1000 {
		t.Errorf("%d higher ones, %d without nots and aggregates", higher, over)
	}
}

// isPositive: has no rule a not or an aggregate?
func isPositive(p api.Program) bool {
	return !slices.ContainsFunc(p.Rules, func(r api.Rule) bool {
		return !isPlain(r) || slices.ContainsFunc(r.Body, func(l api.Literal) bool { return l.Kind == api.LNot })
	})
}
