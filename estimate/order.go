package estimate

import (
	"slices"

	"pedigree/api"
	"pedigree/plan"
)

// ordering is a body on its way into another order.
type ordering struct {
	gauge gauge
	left  []int // the literals that were not taken, rising
	known []string
	rows  float64
}

// cheapestFirst answers the literals of a body in the order in which each time the step with the least rows is taken.
func cheapestFirst(body []api.Literal, l []api.Size) []api.Literal {
	o := ordering{gauge: newGauge(body, l), rows: 1}
	for i := range body {
		o.left = append(o.left, i)
	}
	var out []api.Literal
	for s, ok := o.cheapest(); ok; s, ok = o.cheapest() {
		o.take(s)
		out = append(out, body[s.Lit])
	}
	return out
}

// cheapest answers false just if no literal is left: of a body that limits its variables one that is left is always ready.
func (o *ordering) cheapest() (api.Step, bool) {
	var best api.Step
	found := false
	least := 0.0
	for _, i := range o.left {
		s, ready := stepOf(o.gauge.body, i, o.known)
		if !ready {
			continue
		}
		if rows := o.gauge.behind(o.rows, s); !found || rows < least {
			best, least, found = s, rows, true
		}
	}
	return best, found
}

func (o *ordering) take(s api.Step) {
	o.rows = o.gauge.behind(o.rows, s)
	o.known = append(o.known, s.Gives...)
	o.left = slices.DeleteFunc(o.left, func(i int) bool { return i == s.Lit })
}

// stepOf answers the step of a literal at its turn; false, if it is not ready. A rule whose body is that literal alone may be planned just if it is ready, and has that step.
func stepOf(body []api.Literal, i int, known []string) (api.Step, bool) {
	p, err := plan.Make(api.Rule{Pred: "alone", Body: body[i : i+1]}, known, -1)
	if err != api.OK {
		return api.Step{}, false
	}
	s := p.Steps[0]
	s.Lit = i
	return s, true
}
