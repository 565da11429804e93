package estimate_test

import (
	"fmt"
	"slices"
	"testing"

	"pedigree/api"
	"pedigree/estimate"
)

// cells are where the cells of lists stand, spare room too: two lists that share memory have one in common.
type cells map[any]int

func mark[T any](c cells, l []T) {
	l = l[:cap(l)]
	for i := range l {
		c[&l[i]]++
	}
}

func (c cells) expr(e api.Expr) {
	mark(c, e.Kids)
	for _, kid := range e.Kids {
		c.expr(kid)
	}
}

func (c cells) rule(r api.Rule) {
	mark(c, r.Head)
	mark(c, r.Body)
	for _, l := range r.Body {
		mark(c, l.Atom.Args)
		c.expr(l.Left)
		c.expr(l.Right)
	}
}

func (c cells) sizes(l []api.Size) {
	mark(c, l)
	for _, s := range l {
		mark(c, s.Distinct)
	}
}

func (c cells) plan(p api.Plan) {
	c.rule(p.Rule)
	mark(c, p.Steps)
	for _, s := range p.Steps {
		mark(c, s.Gives)
	}
}

func (c cells) facts(l []api.Fact) {
	mark(c, l)
	for _, f := range l {
		mark(c, f.Args)
	}
}

// wantOwn asks that no cell stands in two lists.
func (c cells) wantOwn(t *testing.T, what string) {
	t.Helper()
	for _, n := range c {
		if n > 1 {
			t.Fatalf("%s: two lists share memory", what)
		}
	}
}

// dirty answers a copy of a list with room behind it that must stay as it is.
func dirty[T any](l []T, spare T) []T {
	out := append(make([]T, 0, len(l)+3), l...)
	room := out[len(out):cap(out)]
	for i := range room {
		room[i] = spare
	}
	return out
}

func dirtyExpr(e api.Expr) api.Expr {
	e.Kids = dirty(e.Kids, ex(v("Spare")))
	for i := range e.Kids {
		e.Kids[i] = dirtyExpr(e.Kids[i])
	}
	return e
}

func dirtyRule(r api.Rule) api.Rule {
	r.Head = dirty(r.Head, api.Arg{Term: v("Spare")})
	r.Body = dirty(r.Body, lit(api.LPos, "spare"))
	for i, l := range r.Body {
		l.Atom.Args = dirty(l.Atom.Args, v("Spare"))
		l.Left, l.Right = dirtyExpr(l.Left), dirtyExpr(l.Right)
		r.Body[i] = l
	}
	return r
}

func dirtySizes(l []api.Size) []api.Size {
	out := dirty(l, size("spare", -1, -1))
	for i := range out {
		out[i].Distinct = dirty(out[i].Distinct, -1)
	}
	return out
}

func dirtyFacts(l []api.Fact) []api.Fact {
	out := dirty(l, fact("spare", text("spare")))
	for i := range out {
		out[i].Args = dirty(out[i].Args, text("spare"))
	}
	return out
}

func wholeExpr(e api.Expr) string {
	out := fmt.Sprint(e.Kids[:cap(e.Kids)])
	for _, kid := range e.Kids {
		out += wholeExpr(kid)
	}
	return out
}

// wholeRule writes a rule with the spare room of its lists, as do those below.
func wholeRule(r api.Rule) string {
	out := fmt.Sprint(r.Pred, r.Head[:cap(r.Head)], r.Body[:cap(r.Body)])
	for _, l := range r.Body {
		out += fmt.Sprint(l.Atom.Args[:cap(l.Atom.Args)]) + wholeExpr(l.Left) + wholeExpr(l.Right)
	}
	return out
}

func wholePlan(p api.Plan) string {
	out := wholeRule(p.Rule) + fmt.Sprint(p.Steps[:cap(p.Steps)])
	for _, s := range p.Steps {
		out += fmt.Sprint(s.Gives[:cap(s.Gives)])
	}
	return out
}

func wholeSizes(l []api.Size) string {
	out := fmt.Sprint(l[:cap(l)])
	for _, s := range l {
		out += fmt.Sprint(s.Distinct[:cap(s.Distinct)])
	}
	return out
}

func wholeFacts(l []api.Fact) string {
	out := fmt.Sprint(l[:cap(l)])
	for _, f := range l {
		out += fmt.Sprint(f.Args[:cap(f.Args)])
	}
	return out
}

// R4: what is handed in stays as it was, its spare room too, and no answer shares memory with it, nor with another answer.
func TestMemory(t *testing.T) {
	d := dice(41)
	kids, sizes := 0, 0
	for range 1500 {
		p := d.anyPlan(dirtyRule(d.safe(7)))
		p.Steps = dirty(p.Steps, api.Step{Kind: api.StepHas})
		for i := range p.Steps {
			p.Steps[i].Gives = dirty(p.Steps[i].Gives, "Spare")
		}
		l, facts := dirtySizes(d.sizes()), dirtyFacts(d.facts(9))
		before := wholePlan(p) + wholeSizes(l) + wholeFacts(facts)
		c := cells{}
		c.plan(p)
		c.sizes(l)
		for range 2 {
			rows, err := estimate.Rows(p, l)
			if err != api.OK {
				t.Fatalf("Rows(%s, %s): %d", tellSteps(p), tellSizes(l), err)
			}
			mark(c, rows)
			estimate.Cost(p, l)
			r := mustOrder(t, p.Rule, l)
			c.rule(r)
			counted := estimate.Sizes(facts)
			c.sizes(counted)
			sizes += len(counted)
			estimate.Share(facts, "e", 1)
			for _, x := range r.Body {
				kids += len(x.Left.Kids) + len(x.Right.Kids)
			}
		}
		c.wantOwn(t, tellSteps(p))
		f := cells{}
		f.facts(facts)
		f.sizes(estimate.Sizes(facts))
		if wholePlan(p)+wholeSizes(l)+wholeFacts(facts) != before {
			t.Fatalf("what was handed in is turned: %s, %s", tellSteps(p), tellSizes(l))
		}
	}
	if kids < 500 || sizes < 2000 {
		t.Errorf("%d kids and %d sizes alone", kids, sizes)
	}
}

// R4: no two lists of one answer share memory, even if they did in what was handed in; and errors let all be as it was.
func TestSharedHandedIn(t *testing.T) {
	args, kids := []api.Term{v("X"), v("Y")}, []api.Expr{ex(v("X")), ex(v("Y"))}
	sum := op(api.OpAdd, kids...)
	r := api.Rule{Pred: "h", Head: head(args...), Body: []api.Literal{test(sum, api.RelLe, op(api.OpMul, sum, sum)), lit(api.LNot, "f", args...), lit(api.LPos, "e", args...), lit(api.LPos, "e", args...), test(sum, api.RelLe, sum)}}
	for range 2 {
		c := cells{}
		out := mustOrder(t, r, chapterSizes())
		c.rule(out)
		c.wantOwn(t, show(out))
		if show(out) == show(r) || literals(out) != literals(r) {
			t.Errorf("Order(%s) = %s", show(r), show(out))
		}
	}
	before := wholeRule(r)
	for _, l := range [][]api.Size{{size("e", -1)}, {size("e", 1, -1)}} {
		wantNoOrder(t, r, l, api.ErrArg)
	}
	bad := r
	bad.Body = append(slices.Clone(r.Body), test(ex(v("Z")), api.RelLe, sum))
	wantNoOrder(t, bad, nil, api.ErrSafe)
	if wholeRule(r) != before {
		t.Errorf("what was handed in is turned: %s", show(r))
	}
}
