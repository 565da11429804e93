package estimate

import (
	"slices"

	"pedigree/api"
)

const mostCounted = 1<<31 - 1

func isNoCount(n int) bool { return n < 0 || n > mostCounted }

func mayBeUsed(l []api.Size) bool {
	for _, s := range l {
		if isNoCount(s.Rows) || slices.ContainsFunc(s.Distinct, isNoCount) {
			return false
		}
	}
	return true
}

// gauge tells the rows behind a step of a body by those ahead of it.
type gauge struct {
	body  []api.Literal
	sizes []api.Size // of the literals' atoms
	turns [api.StepSet + 1]turn
}

func newGauge(body []api.Literal, l []api.Size) gauge {
	g := gauge{body: body, turns: turns()}
	for _, x := range body {
		g.sizes = append(g.sizes, sizeOf(x.Atom.Pred, l))
	}
	return g
}

// sizeOf answers the zero Size, which has no rows, if there is none of that name.
func sizeOf(pred string, l []api.Size) api.Size {
	for _, s := range l {
		if s.Pred == pred {
			return s
		}
	}
	return api.Size{}
}

// behind answers the rows behind a step that is right.
func (g gauge) behind(ahead float64, s api.Step) float64 {
	return g.turns[s.Kind].rows(ahead, asked{rel: g.body[s.Lit].Rel, size: g.sizes[s.Lit], known: s.Known})
}

// asked is what a step asks for.
type asked struct {
	rel   api.Rel
	size  api.Size
	known api.Mask
}

// turn is how the steps of one kind turn the rows.
type turn struct {
	rows func(ahead float64, a asked) float64
}

func turns() [api.StepSet + 1]turn {
	return [...]turn{
		api.StepScan:   {rows: meet},
		api.StepLook:   {rows: meet},
		api.StepHas:    {rows: meet},
		api.StepAbsent: {rows: func(ahead float64, _ asked) float64 { return ahead / 2 }},
		api.StepTest:   {rows: test},
		api.StepSet:    {rows: func(ahead float64, _ asked) float64 { return ahead }},
	}
}

// meet and test convert their products, so that no machine fuses one with what follows: each result is rounded by itself.
func meet(ahead float64, a asked) float64 {
	out := float64(ahead * float64(a.size.Rows))
	for i := range api.MaxWide {
		if a.known>>i&1 == 1 {
			out /= worth(a.size.Distinct, i)
		}
	}
	return out
}

func worth(distinct []int, col int) float64 {
	if col >= len(distinct) || distinct[col] == 0 {
		return 1
	}
	return float64(distinct[col])
}

func test(ahead float64, a asked) float64 {
	switch a.rel {
	case api.RelEq:
		return ahead / 10
	case api.RelNe:
		return float64(ahead*9) / 10
	}
	return ahead / 3
}
