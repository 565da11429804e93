package estimate_test

import (
	"fmt"
	"slices"
	"strings"
	"testing"

	"pedigree/api"
	"pedigree/estimate"
	"pedigree/group"
	"pedigree/naive"
	"pedigree/plan"
	"pedigree/print"
)

func mustOrder(t *testing.T, r api.Rule, l []api.Size) api.Rule {
	t.Helper()
	out, err := estimate.Order(r, l)
	if err != api.OK {
		t.Fatalf("Order(%s, %s): %d", show(r), tellSizes(l), err)
	}
	return out
}

// literals tells a body's literals in an order of their own.
func literals(r api.Rule) string {
	var out []string
	for _, l := range r.Body {
		s, _ := print.Literal(l)
		out = append(out, s)
	}
	slices.Sort(out)
	return strings.Join(out, "; ")
}

// P25.1: on any sizes, plans and facts.
func TestFinite(t *testing.T) {
	d := dice(31)
	for range 5000 {
		p, l := d.anyPlan(d.safe(9)), d.sizes()
		rows, _ := estimate.Rows(p, l)
		cost, _ := estimate.Cost(p, l)
		if !isFinite(rows...) || !isFinite(cost) {
			t.Fatalf("Rows(%s, %s) = %s, the cost %s", tellSteps(p), tellSizes(l), bits(rows...), bits(cost))
		}
		facts := d.facts(12)
		mean, spread, _ := estimate.Share(facts, "e", d.below(4))
		if mean < 0 {
			mean = -mean
		}
		if !isFinite(mean, spread) {
			t.Fatalf("Share(%v) = %s", facts, bits(mean, spread))
		}
	}
}

// P25.7: what is put in order has the same literals, may be planned as ahead of it, and stays as it is.
func TestOrderedBody(t *testing.T) {
	d := dice(32)
	turned := 0
	for range 6000 {
		r, l := d.safe(9), d.sizes()
		out := mustOrder(t, r, l)
		if literals(out) != literals(r) || out.Pred != r.Pred || !slices.Equal(out.Head, r.Head) {
			t.Fatalf("Order(%s, %s) = %s", show(r), tellSizes(l), show(out))
		}
		if again := mustOrder(t, out, l); show(again) != show(out) {
			t.Fatalf("Order(%s, %s) = %s, and of that %s", show(r), tellSizes(l), show(out), show(again))
		}
		_, before := plan.Make(r, nil, -1)
		p, after := plan.Make(out, nil, -1)
		if before != api.OK || after != api.OK || !plan.Right(p, nil) {
			t.Fatalf("%s is planned with %d, %s with %d", show(r), before, show(out), after)
		}
		if as, ok := slowPlan(out, inOrder(len(out.Body))); !ok || !plan.Right(as, nil) {
			t.Fatalf("%s: no plan takes it as it is", show(out))
		}
		if show(out) != show(r) {
			turned++
		}
	}
	if turned < 2000 {
		t.Errorf("%d bodies alone were turned", turned)
	}
}

func gives(t *testing.T, r api.Rule, l []api.Fact) string {
	t.Helper()
	work := naive.Gives
	if slices.ContainsFunc(r.Head, func(a api.Arg) bool { return a.Agg != api.AggNone }) {
		work = group.Gives
	}
	out, err := work(r, l)
	if err != api.OK {
		t.Fatalf("%s gives %d", show(r), err)
	}
	s, _ := print.Facts(out)
	return s
}

// oneArity makes a name of an atom and how many columns it has, so that each name has one number of columns.
func oneArity(r api.Rule) api.Rule {
	for i := range r.Body {
		if a := &r.Body[i].Atom; a.Pred != "" {
			a.Pred = "p" + fmt.Sprint(len(a.Args)) + a.Pred
		}
	}
	return r
}

// factsFor are facts for a rule's atoms.
func (d *dice) factsFor(r api.Rule) []api.Fact {
	var out []api.Fact
	for _, l := range r.Body {
		for range d.below(8) * min(len(l.Atom.Pred), 1) {
			f := api.Fact{Pred: l.Atom.Pred}
			for range l.Atom.Args {
				f.Args = append(f.Args, num(int64(d.below(3))))
			}
			out = append(out, f)
		}
	}
	return out
}

// P25.7: a rule gives over any facts what it gives in the other order.
func TestOrderedGivesTheSame(t *testing.T) {
	d := dice(33)
	some, turned, aggregates := 0, 0, 0
	for range 6000 {
		r := oneArity(d.safe(5))
		l := d.factsFor(r)
		sizes := estimate.Sizes(l)
		if d.below(2) == 0 {
			sizes = nil
			for _, x := range r.Body {
				sizes = append(sizes, d.size())
				sizes[len(sizes)-1].Pred = x.Atom.Pred
			}
		}
		out := mustOrder(t, r, sizes)
		want := gives(t, r, l)
		if got := gives(t, out, l); got != want {
			t.Fatalf("%s and %s give, over %v:\n%s\n%s", show(r), show(out), l, want, got)
		}
		if want == "" {
			continue
		}
		some++
		if show(out) != show(r) {
			turned++
		}
		if strings.Contains(show(r), "max(") {
			aggregates++
		}
	}
	if some < 1500 || turned < 400 || aggregates < 100 {
		t.Errorf("%d gave something, of which %d were turned and %d had aggregates", some, turned, aggregates)
	}
}

// P25.7: the more columns are known, the fewer rows.
func TestMoreKnown(t *testing.T) {
	d := dice(34)
	fewer := 0
	for range 12000 {
		p, l := d.anyPlan(d.safe(6)), append(d.sizes(), d.size())
		name, columns := l[d.below(len(l))].Pred, 1+d.below(6)
		if name == "" || name[0] < 'a' || name == "x y" {
			continue
		}
		args := slices.Repeat([]api.Term{v("_")}, columns)
		rows := []float64{lastRows(t, p, lit(api.LPos, name, args...), l)}
		for _, i := range permuted(&d, columns) {
			args[i] = api.Term{Val: num(1)}
			rows = append(rows, lastRows(t, p, lit(api.LPos, name, args...), l))
			now, before := rows[len(rows)-1], rows[len(rows)-2]
			if now > before {
				t.Fatalf("%s with %s: %s", tellSteps(p), tellSizes(l), bits(rows...))
			}
			if now < before {
				fewer++
			}
		}
	}
	if fewer < 2000 {
		t.Errorf("%d columns alone made the rows fewer", fewer)
	}
}

// lastRows are the rows of a plan behind whose steps an atom is asked for.
func lastRows(t *testing.T, p api.Plan, atom api.Literal, l []api.Size) float64 {
	t.Helper()
	p.Rule.Body = append(slices.Clone(p.Rule.Body), atom)
	p.Steps = append(slices.Clone(p.Steps), slowStep(p.Rule.Body, len(p.Rule.Body)-1, nil))
	rows, err := estimate.Rows(p, l)
	if err != api.OK {
		t.Fatalf("%s: %d", tellSteps(p), err)
	}
	return rows[len(rows)-1]
}

// permuted are the numbers below n in any order.
func permuted(d *dice, n int) []int {
	out := inOrder(n)
	for i := range out {
		j := i + d.below(n-i)
		out[i], out[j] = out[j], out[i]
	}
	return out
}

// P25.7: where the numbers are not too great, nor too many, the mean lies between them, and the spread is 0 just if all are the same.
func TestMeanAndSpread(t *testing.T) {
	const far = 1 << 20
	d := dice(35)
	same := 0
	for i := range 3000 {
		var l []api.Fact
		many, wide := 1+d.below(12), int64(1+d.below(3))
		if i%10 == 0 {
			many, wide = 1024-d.below(3), 2*far
		}
		base := int64(d.below(2*far+1)) - far
		var least, greatest int64 = far + 1, -far - 1
		for j := range many {
			n := min(base+int64(d.below(int(wide))), far)
			l = append(l, fact("e", num(int64(j)), num(n)))
			least, greatest = min(least, n), max(greatest, n)
		}
		mean, spread, n := estimate.Share(l, "e", 1)
		if n != many || mean < float64(least) || mean > float64(greatest) || (spread == 0) != (least == greatest) {
			t.Fatalf("of %d numbers from %d to %d the share is %s, %d", many, least, greatest, bits(mean, spread), n)
		}
		if least == greatest {
			same++
		}
	}
	if same < 500 || same > 2500 {
		t.Errorf("in %d lists all numbers were the same", same)
	}
}

// P0.4, R5: facts in any order, and twice; the same call again.
func TestOrderOfFacts(t *testing.T) {
	d := dice(36)
	for range 1500 {
		l := d.facts(15)
		sizes := estimate.Sizes(l)
		mean, spread, n := estimate.Share(l, "e", 1)
		for range 3 {
			var turned []api.Fact
			for _, i := range permuted(&d, len(l)) {
				turned = append(turned, l[i])
			}
			if d.below(2) == 0 {
				turned = append(turned, l...)
			}
			wantSizes(t, turned, sizes...)
			wantShare(t, turned, "e", 1, mean, spread, n)
		}
		r, use := d.safe(7), d.sizes()
		if a, b := mustOrder(t, r, use), mustOrder(t, r, use); show(a) != show(b) {
			t.Fatalf("Order(%s, %s) = %s and then %s", show(r), tellSizes(use), show(a), show(b))
		}
		if t.Failed() {
			return
		}
	}
}
