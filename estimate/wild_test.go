package estimate_test

import (
	"slices"
	"testing"

	"pedigree/api"
	"pedigree/estimate"
)

// dice are numbers that look thrown and are the same in each run.
type dice uint64

func (d *dice) below(n int) int {
	*d = *d*6364136223846793005 + 1442695040888963407
	return int(uint64(*d>>33) % uint64(n))
}

func (d *dice) one(l ...string) string { return l[d.below(len(l))] }

func (d *dice) variable() string { return d.one("X", "Y", "Z", "W", "V") }

func (d *dice) name() string { return d.one("a", "b", "c", "e", "f", "q_g") }

func (d *dice) term() api.Term {
	switch d.below(7) {
	case 0:
		return v("_")
	case 1:
		return api.Term{Val: num(int64(d.below(3)))}
	}
	return v(d.variable())
}

func (d *dice) terms(most int) []api.Term {
	var out []api.Term
	for range d.below(most + 1) {
		out = append(out, d.term())
	}
	return out
}

func (d *dice) expr(deep int) api.Expr {
	switch k := d.below(8); {
	case k == 0 && deep > 0:
		return op(api.OpNeg, d.expr(deep-1))
	case k < 3 && deep > 0:
		return op(api.OpAdd, d.expr(deep-1), d.expr(deep-1))
	case k < 4:
		return ex(api.Term{Val: num(int64(k))})
	}
	return ex(v(d.variable()))
}

func (d *dice) literal() api.Literal {
	switch d.below(7) {
	case 0:
		return lit(api.LNot, d.name(), d.terms(2)...)
	case 1:
		return test(d.expr(2), api.Rel(1+d.below(6)), d.expr(2))
	case 2:
		return test(d.expr(1), api.RelEq, d.expr(2))
	}
	return lit(api.LPos, d.name(), d.terms(4)...)
}

func (d *dice) rule(most int) api.Rule {
	r := api.Rule{Pred: "h"}
	for range d.below(most + 1) {
		r.Body = append(r.Body, d.literal())
	}
	for range d.below(3) {
		r.Head = append(r.Head, api.Arg{Term: v(d.variable())})
	}
	if d.below(6) == 0 {
		r.Head = append(r.Head, api.Arg{Agg: api.AggMax, Term: v(d.variable())})
	}
	return r
}

// safe is a rule that may be used.
func (d *dice) safe(most int) api.Rule {
	for {
		if r := d.rule(most); slowRuleCode(r) == api.OK {
			return r
		}
	}
}

// broken is a rule with one thing in it that may not be, or may still.
func (d *dice) broken(r api.Rule) api.Rule {
	r.Body = slices.Clone(r.Body)
	if len(r.Body) == 0 || d.below(4) == 0 {
		r.Pred = d.one("h", "", "H", "not", "q_p")
		return r
	}
	l := &r.Body[d.below(len(r.Body))]
	switch d.below(4) {
	case 0:
		l.Kind = api.LitKind(d.below(6) - 1)
	case 1:
		l.Atom.Pred = d.one("e", "", "E")
	case 2:
		l.Rel = api.Rel(d.below(9) - 1)
	default:
		l.Left = api.Expr{Op: api.Op(d.below(14) - 1), Term: v(d.one("X", "", "_"))}
	}
	return r
}

// count is how many rows or unlike values there may be: few, many, or none.
func (d *dice) count() int {
	switch d.below(12) {
	case 0:
		return 0
	case 1:
		return 1<<31 - 1 - d.below(2)
	case 2:
		return d.below(1 << 31)
	case 3, 4:
		return 1
	}
	return d.below(200)
}

func (d *dice) size() api.Size {
	s := api.Size{Pred: d.one("", "E", "x y", d.name(), d.name(), d.name(), d.name(), d.name()), Rows: d.count()}
	for range d.below(6) {
		s.Distinct = append(s.Distinct, d.count())
	}
	return s
}

// sizes are some that may be used.
func (d *dice) sizes() []api.Size {
	var out []api.Size
	for range d.below(9) {
		out = append(out, d.size())
	}
	return out
}

// oddSizes are now and then some that may not be used.
func (d *dice) oddSizes() []api.Size {
	out := d.sizes()
	if len(out) == 0 || d.below(4) > 0 {
		return out
	}
	s := &out[d.below(len(out))]
	wrong := []int{-1, -1 << 63, 1 << 31, 1<<63 - 1, 0}[d.below(5)]
	if len(s.Distinct) == 0 || d.below(2) == 0 {
		s.Rows = wrong
	} else {
		s.Distinct[d.below(len(s.Distinct))] = wrong
	}
	return out
}

// anyPlan takes the literals of a rule in any order, each when it is ready.
func (d *dice) anyPlan(r api.Rule) api.Plan {
	p := api.Plan{Rule: r}
	var known []string
	var left []int
	for i := range r.Body {
		left = append(left, i)
	}
	for len(left) > 0 {
		at := d.below(len(left))
		s := slowStep(r.Body, left[at], known)
		if s.Kind != api.StepNone {
			p.Steps, known, left = append(p.Steps, s), append(known, s.Gives...), slices.Delete(left, at, at+1)
		}
	}
	return p
}

// oddPlan is a plan with one thing turned in it.
func (d *dice) oddPlan(p api.Plan) api.Plan {
	if len(p.Steps) == 0 || d.below(5) == 0 {
		p.Rule = d.broken(p.Rule)
		return p
	}
	i := d.below(len(p.Steps))
	s := &p.Steps[i]
	switch d.below(6) {
	case 0:
		s.Kind = api.StepKind(d.below(10) - 2)
	case 1:
		s.Lit = d.below(len(p.Steps)+4) - 2
	case 2:
		s.Known ^= 1 << d.below(32)
	case 3:
		s.Gives = append(slices.Clone(s.Gives), d.one("X", "Y", "x", ""))
	case 4:
		p.Steps = slices.Delete(p.Steps, i, i+1)
	default:
		p.Steps = append(p.Steps, *s)
	}
	return p
}

// P25.3, P25.4, R1: any plans with any sizes, bit by bit.
func TestRowsOfAnything(t *testing.T) {
	d := dice(25)
	codes := map[api.Errno]int{}
	backwards := 0
	for range 40000 {
		p, l := d.anyPlan(d.safe(8)), d.oddSizes()
		if d.below(5) == 0 {
			p = d.oddPlan(p)
		}
		var want []float64
		code := api.OK
		switch {
		case !slowRight(p):
			code = api.ErrPlan
		case !slowUsable(l):
			code = api.ErrArg
		default:
			want = slowAllRows(p, l)
		}
		codes[code]++
		got, err := estimate.Rows(p, l)
		if err != code || bits(got...) != bits(want...) {
			t.Fatalf("Rows(%s, %s) = %s, %d; want %s, %d", tellSteps(p), tellSizes(l), bits(got...), err, bits(want...), code)
		}
		cost, err := estimate.Cost(p, l)
		if err != code || bits(cost) != bits(sumOf(want)) {
			t.Fatalf("Cost(%s, %s) = %s, %d; want %s, %d", tellSteps(p), tellSizes(l), bits(cost), err, bits(sumOf(want)), code)
		}
		slices.Reverse(want)
		if sumOf(want) != cost {
			backwards++
		}
	}
	if codes[api.OK] < 20000 || codes[api.ErrPlan] < 2000 || codes[api.ErrArg] < 2000 || backwards < 500 {
		t.Errorf("the errors, and how often they came: %v; %d sums are others from the other end", codes, backwards)
	}
}

// P25.5, R1: any rules with any sizes.
func TestOrderOfAnything(t *testing.T) {
	d := dice(5)
	codes := map[api.Errno]int{}
	turned := 0
	for range 30000 {
		r, l := d.rule(9), d.oddSizes()
		if d.below(8) == 0 {
			r = d.broken(r)
		}
		code := slowRuleCode(r)
		if code == api.OK && !slowUsable(l) {
			code = api.ErrArg
		}
		codes[code]++
		want := api.Rule{}
		if code == api.OK {
			want = api.Rule{Pred: r.Pred, Head: r.Head}
			order := slowOrder(r, l)
			for _, i := range order {
				want.Body = append(want.Body, r.Body[i])
			}
			if !slices.IsSorted(order) {
				turned++
			}
		}
		if got, err := estimate.Order(r, l); err != code || show(got) != show(want) {
			t.Fatalf("Order(%s, %s) = %s, %d; want %s, %d", show(r), tellSizes(l), show(got), err, show(want), code)
		}
	}
	if codes[api.OK] < 5000 || codes[api.ErrTerm] < 1000 || codes[api.ErrSafe] < 2000 || codes[api.ErrArg] < 500 || turned < 3000 {
		t.Errorf("the errors, and how often they came: %v; %d bodies were turned", codes, turned)
	}
}

// value is any value, now and then one that may not be.
func (d *dice) value() api.Value {
	switch d.below(16) {
	case 0:
		return api.Value{Kind: api.Kind(d.below(5) - 1), Num: int64(d.below(3)), Text: d.one("", "a")}
	case 1, 2:
		return text(d.one("", "a", "1", "ab"))
	case 3:
		return num(int64(d.below(1<<31))<<32 - 1<<62)
	case 4:
		return num(1<<63 - 1 - int64(d.below(1100)))
	case 5:
		return num(-1<<63 + int64(d.below(1100)))
	case 6:
		return num(1<<53 + int64(d.below(5)))
	case 7:
		return num(-1<<53 - int64(d.below(5)))
	}
	return num(int64(d.below(7) - 3))
}

func (d *dice) facts(most int) []api.Fact {
	var out []api.Fact
	for range d.below(most + 1) {
		f := api.Fact{Pred: d.one("e", "e", "e", "f", "", "E")}
		for range d.below(4) {
			f.Args = append(f.Args, d.value())
		}
		out = append(out, f)
		if d.below(4) == 0 {
			out = append(out, out[d.below(len(out))])
		}
	}
	return out
}

// P25.2, P25.6, R1: any facts.
func TestCountsOfAnything(t *testing.T) {
	d := dice(7)
	some, spread, twice := 0, 0, 0
	for range 6000 {
		l := d.facts(24)
		want := slowSizes(l)
		wantSizes(t, l, want...)
		rows := 0
		for _, s := range want {
			rows += s.Rows
		}
		if rows < len(l) {
			twice++
		}
		for col := -1; col < 5; col++ {
			name := d.one("e", "e", "f", "", "E", "g")
			mean, off, n := slowShare(l, name, col)
			wantShare(t, l, name, col, mean, off, n)
			if n > 2 {
				some++
			}
			if off > 0 {
				spread++
			}
		}
		if t.Failed() {
			return
		}
	}
	if some < 2500 || spread < 4000 || twice < 3000 {
		t.Errorf("%d columns had more than two numbers, %d unlike ones; in %d lists something stood twice", some, spread, twice)
	}
}
