package plan_test

import (
	"slices"
	"strconv"
	"strings"
	"testing"

	"pedigree/api"
	"pedigree/plan"
	"pedigree/term"
)

// someRule is a rule with known variables with which it may be planned.
func (d *dice) someRule(most int) (api.Rule, []string) {
	for {
		r, known := d.rule(most), slices.Clone(d.known())
		if slowCode(r, known, -1) == api.OK {
			return r, known
		}
	}
}

// first is -1 or the number of an atom.
func (d *dice) first(r api.Rule) int {
	i := d.below(len(r.Body)+1) - 1
	if i >= 0 && r.Body[i].Kind != api.LPos {
		return -1
	}
	return i
}

func mustMake(t *testing.T, r api.Rule, known []string, first int) api.Plan {
	t.Helper()
	p, err := plan.Make(r, known, first)
	if err != api.OK {
		t.Fatalf("Make(%s, %q, %d): %d", brief(r), known, first, err)
	}
	return p
}

// orders goes through all orders of the numbers below n.
func orders(n int, done []int, tell func([]int)) {
	if len(done) == n {
		tell(done)
	}
	for i := range n {
		if !slices.Contains(done, i) {
			orders(n, append(slices.Clone(done), i), tell)
		}
	}
}

// inOrder is the plan that takes the literals in this order; false, if one is not ready at its turn.
func inOrder(r api.Rule, known []string, order []int) (api.Plan, bool) {
	p := api.Plan{Rule: r}
	known = slices.Clone(known)
	for _, i := range order {
		s := slowStep(r, i, known)
		if s.Kind == api.StepNone {
			return api.Plan{}, false
		}
		p.Steps, known = append(p.Steps, s), append(known, s.Gives...)
	}
	return p, true
}

// wantGivenOnce: each variable that is not known is given by just one step, ahead of all others that have it.
func wantGivenOnce(t *testing.T, p api.Plan, known []string) {
	t.Helper()
	for _, name := range term.RuleVars(p.Rule) {
		givers, seen := 0, false
		for _, s := range p.Steps {
			if slices.Contains(s.Gives, name) {
				if givers++; seen {
					t.Fatalf("%s with %s, %q: a step has %s ahead of what gives it", brief(p.Rule), show(p.Steps), known, name)
				}
			}
			seen = seen || slices.Contains(term.LiteralVars(p.Rule.Body[s.Lit]), name)
		}
		if isKnown := slices.Contains(known, name); isKnown && givers != 0 || !isKnown && givers != 1 {
			t.Fatalf("%s with %s, %q: %d steps give %s", brief(p.Rule), show(p.Steps), known, givers, name)
		}
	}
}

// P12.2, P12.5: what Make answers is Right, takes each literal once, and gives each variable once.
func TestMakeIsRight(t *testing.T) {
	d := dice(5)
	for range 20000 {
		r, known := d.someRule(8)
		first := d.first(r)
		p := mustMake(t, r, known, first)
		wantRight(t, p, known, true)
		wantGivenOnce(t, p, known)
		var taken []int
		for _, s := range p.Steps {
			taken = append(taken, s.Lit)
		}
		if first != -1 && taken[0] != first {
			t.Fatalf("Make(%s, %q, %d) = %s", brief(r), known, first, show(p.Steps))
		}
		slices.Sort(taken)
		for i := range r.Body {
			if len(taken) != len(r.Body) || taken[i] != i {
				t.Fatalf("Make(%s, %q, %d) = %s", brief(r), known, first, show(p.Steps))
			}
		}
	}
}

// P12.4, P12.5: in all orders of a body a plan is right just if each literal is ready at its turn; it gives each variable once; Make's is one of them.
func TestAllOrders(t *testing.T) {
	d := dice(6)
	right := 0
	for range 300 {
		r, known := d.someRule(5)
		made, found := mustMake(t, r, known, -1), false
		orders(len(r.Body), nil, func(order []int) {
			p, ok := inOrder(r, known, order)
			if !ok {
				return
			}
			wantRight(t, p, known, true)
			wantGivenOnce(t, p, known)
			found = found || show(p.Steps) == show(made.Steps)
			right++
		})
		if !found {
			t.Fatalf("Make(%s, %q, -1) = %s is none of the right ones", brief(r), known, show(made.Steps))
		}
	}
	if right < 2000 {
		t.Errorf("%d plans alone are right", right)
	}
}

// P12.5: with more known variables a plan in the same order is right too, gives no more and knows no fewer columns.
func TestMoreKnown(t *testing.T) {
	d := dice(7)
	turned := 0
	for range 10000 {
		r, known := d.someRule(6)
		p := mustMake(t, r, known, d.first(r))
		var order []int
		for _, s := range p.Steps {
			order = append(order, s.Lit)
		}
		more := append(slices.Clone(known), notIn(d.known(), known)...)
		q, ok := inOrder(r, more, order)
		if !ok {
			t.Fatalf("%s in the order of %s with %q, but not with %q", brief(r), show(p.Steps), known, more)
		}
		wantRight(t, q, more, true)
		wantNoMore(t, p, q)
		if show(p.Steps) != show(q.Steps) {
			wantRight(t, p, more, false)
			turned++
		}
		if made := mustMake(t, r, more, -1); slices.EqualFunc(made.Steps, p.Steps, sameLit) {
			wantNoMore(t, p, made)
		}
	}
	if turned < 2000 {
		t.Errorf("more known variables turned %d plans alone", turned)
	}
}

func sameLit(a, b api.Step) bool { return a.Lit == b.Lit }

// wantNoMore holds two plans in the same order against each other.
func wantNoMore(t *testing.T, p, q api.Plan) {
	t.Helper()
	for i, s := range q.Steps {
		if !allIn(s.Gives, p.Steps[i].Gives) || p.Steps[i].Known&^s.Known != 0 {
			t.Fatalf("%s: %s, and with more known %s", brief(p.Rule), show(p.Steps), show(q.Steps))
		}
	}
}

// P12.5: no comparison and no not stands behind an atom ahead of which it would have been right as it is.
func TestNothingLate(t *testing.T) {
	d := dice(8)
	moved := 0
	for range 20000 {
		r, known := d.someRule(7)
		first := d.first(r)
		p := mustMake(t, r, known, first)
		begin := 0
		if first != -1 {
			begin = 1
		}
		for i := begin; i < len(p.Steps); i++ {
			if r.Body[p.Steps[i].Lit].Kind != api.LPos {
				continue
			}
			for j := i + 1; j < len(p.Steps); j++ {
				s := p.Steps[j]
				if r.Body[s.Lit].Kind == api.LPos {
					continue
				}
				early := api.Plan{Rule: r, Steps: slices.Insert(slices.Delete(slices.Clone(p.Steps), j, j+1), i, s)}
				wantRight(t, early, known, false)
				moved++
			}
		}
	}
	if moved < 2000 {
		t.Errorf("%d steps alone were moved", moved)
	}
}

// P12.2, P12.4: the same call answers the same, and the order of the known variables is nothing.
func TestOrderOfKnown(t *testing.T) {
	d := dice(9)
	for range 3000 {
		r, known := d.someRule(7)
		first := d.first(r)
		p := mustMake(t, r, known, first)
		slices.Reverse(known)
		if q := mustMake(t, r, known, first); told(p) != told(q) {
			t.Fatalf("Make(%s, %q, %d) = %s, the other way round %s", brief(r), known, first, show(q.Steps), show(p.Steps))
		}
		wantRight(t, p, known, true)
	}
}

// dirty answers a copy of a list with room behind it that must stay as it is.
func dirty[T any](l []T, spare T) []T {
	out := append(make([]T, 0, len(l)+3), l...)
	room := out[len(out):cap(out)]
	for i := range room {
		room[i] = spare
	}
	return out
}

func dirtyExpr(e api.Expr) api.Expr {
	e.Kids = dirty(e.Kids, ex(v("Spare")))
	for i := range e.Kids {
		e.Kids[i] = dirtyExpr(e.Kids[i])
	}
	return e
}

// dirtyRule answers a copy of a rule all whose lists have room behind them.
func dirtyRule(r api.Rule) api.Rule {
	r.Head = dirty(r.Head, api.Arg{Term: v("Spare")})
	r.Body = dirty(r.Body, pos("spare"))
	for i, l := range r.Body {
		l.Atom.Args = dirty(l.Atom.Args, v("Spare"))
		l.Left, l.Right = dirtyExpr(l.Left), dirtyExpr(l.Right)
		r.Body[i] = l
	}
	return r
}

// whole writes a list with its spare room.
func whole[T any](l []T) string { return told(l[:cap(l)]) }

func wholeExpr(e api.Expr) string {
	out := whole(e.Kids)
	for _, kid := range e.Kids {
		out += wholeExpr(kid)
	}
	return out
}

func wholeRule(r api.Rule) string {
	out := []string{r.Pred, whole(r.Head), whole(r.Body)}
	for _, l := range r.Body {
		out = append(out, whole(l.Atom.Args), wholeExpr(l.Left), wholeExpr(l.Right))
	}
	return strings.Join(out, "|")
}

func wholePlan(p api.Plan) string {
	out := []string{wholeRule(p.Rule), whole(p.Steps)}
	for _, s := range p.Steps {
		out = append(out, whole(s.Gives))
	}
	return strings.Join(out, "|")
}

// R4: what is handed in stays as it was, its spare room too.
func TestWhatIsHandedInStays(t *testing.T) {
	d := dice(10)
	for range 3000 {
		r, known := dirtyRule(d.rule(6)), dirty(d.knownOrNot(), "Spare")
		before := wholeRule(r) + whole(known)
		first := d.below(len(r.Body)+3) - 2
		p, err := plan.Make(r, known, first)
		if wholeRule(r)+whole(known) != before {
			t.Fatalf("Make turned what it was handed: %s", brief(r))
		}
		if err != api.OK {
			continue
		}
		p = api.Plan{Rule: r, Steps: dirty(p.Steps, api.Step{Kind: api.StepHas})}
		for i, s := range p.Steps {
			p.Steps[i].Gives = dirty(s.Gives, "Spare")
		}
		before = wholePlan(p) + whole(known)
		if !plan.Right(p, known) || wholePlan(p)+whole(known) != before {
			t.Fatalf("Right turned what it was handed: %s", brief(p))
		}
	}
}

// spoil writes over a list and its spare room.
func spoil[T any](l []T, with T) {
	l = l[:cap(l)]
	for i := range l {
		l[i] = with
	}
}

func spoilExpr(e api.Expr) {
	for _, kid := range e.Kids {
		spoilExpr(kid)
	}
	spoil(e.Kids, ex(v("Spoilt")))
}

func spoilRule(r api.Rule) {
	for _, l := range r.Body {
		spoil(l.Atom.Args, v("Spoilt"))
		spoilExpr(l.Left)
		spoilExpr(l.Right)
	}
	spoil(r.Head, api.Arg{Term: v("Spoilt")})
	spoil(r.Body, not("spoilt"))
}

// R4: an answer is memory of its own: what was handed in and other answers may be written over.
func TestAnswersAreNewMemory(t *testing.T) {
	d := dice(11)
	for range 2000 {
		r, known := d.someRule(6)
		r, known = dirtyRule(r), dirty(known, "Spare")
		first := d.first(r)
		p, q := mustMake(t, r, known, first), mustMake(t, r, known, first)
		before := told(p)
		for _, s := range q.Steps {
			spoil(s.Gives, "Spoilt")
		}
		spoil(q.Steps, api.Step{Lit: 99})
		spoilRule(q.Rule)
		if told(r) != told(p.Rule) {
			t.Fatalf("an answer written over turned what was handed in: %s", brief(r))
		}
		spoilRule(r)
		spoil(known, "Spoilt")
		if told(p) != before {
			t.Fatalf("an answer shares memory: %s", brief(p))
		}
	}
}

// R4: no two lists within one answer share memory, even if they did in what was handed in.
func TestListsWithinAnAnswer(t *testing.T) {
	args, kids := []api.Term{v("X"), v("Y"), v("Z")}, []api.Expr{ex(v("X")), ex(v("Y"))}
	sum := op(api.OpAdd, kids...)
	r := rule("p", head(args...), pos("q", args...), pos("r", args...), not("s", args...), cmp(sum, api.RelLe, sum), eq(op(api.OpMul, sum, sum), ex(v("W"))))
	p := mustMake(t, r, nil, -1)
	want := show(p.Steps)
	for i := range p.Steps {
		before := told(p.Steps[:i]) + told(p.Steps[i+1:])
		spoil(p.Steps[i].Gives, "Spoilt")
		if told(p.Steps[:i])+told(p.Steps[i+1:]) != before {
			t.Errorf("what step %d gives shares memory: %s", i, want)
		}
	}
	for i := range p.Rule.Body {
		before := told(p.Rule.Body[:i]) + told(p.Rule.Body[i+1:])
		l := p.Rule.Body[i]
		spoil(l.Atom.Args, v("Spoilt"))
		spoilExpr(l.Left)
		if l.Kind == api.LCmp && told(l.Right) != told(r.Body[i].Right) {
			t.Errorf("the sides of literal %d share memory", i)
		}
		spoilExpr(l.Right)
		if told(p.Rule.Body[:i])+told(p.Rule.Body[i+1:]) != before {
			t.Errorf("literal %d shares memory", i)
		}
	}
	p = mustMake(t, r, nil, -1)
	spoilExpr(p.Rule.Body[4].Left.Kids[0])
	if told(p.Rule.Body[4].Left.Kids[1]) != told(sum) {
		t.Errorf("two kids share memory")
	}
}

// R1: long lists of known variables and of steps.
func TestLongLists(t *testing.T) {
	var known []string
	for i := range 200000 {
		known = append(known, "K"+strconv.Itoa(i))
	}
	a := ruleOf(t, ancestor)
	p := mustMake(t, a, known, -1)
	if want := "scan 0 0 X Z; look 1 1 Y"; show(p.Steps) != want {
		t.Errorf("Make with many known = %s, want %s", show(p.Steps), want)
	}
	wantRight(t, p, known, true)
	p = mustMake(t, a, append(known, "Y"), -1)
	if want := "scan 0 0 X Z; has 1 3"; show(p.Steps) != want {
		t.Errorf("Make with many known = %s, want %s", show(p.Steps), want)
	}
	if _, err := plan.Make(a, append(known, "K0"), -1); err != api.ErrArg {
		t.Errorf("Make with one known twice: %d", err)
	}
	long := api.Plan{Rule: a, Steps: slices.Repeat(read(t, "scan 0 0 X Z; look 1 1 Y"), 200000)}
	if plan.Right(long, nil) {
		t.Errorf("Right of too many steps")
	}
}
