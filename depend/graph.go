package depend

import (
	"maps"
	"slices"

	"pedigree/api"
)

// graph is the predicates of a program, numbered in the order of their names, so that a lower number is a lower name.
type graph struct {
	names   []string
	numbers map[string]int
	steps   [][]int // of each predicate those to which a step leads
}

func newGraph(rules []api.Rule, edges []api.Edge) *graph {
	g := &graph{numbers: map[string]int{}}
	for _, r := range rules {
		g.numbers[r.Pred] = 0
	}
	for _, e := range edges {
		g.numbers[e.To] = 0
	}
	g.names = slices.Sorted(maps.Keys(g.numbers))
	for x, name := range g.names {
		g.numbers[name] = x
	}
	g.steps = make([][]int, len(g.names))
	for _, e := range edges {
		x := g.numbers[e.From]
		g.steps[x] = append(g.steps[x], g.numbers[e.To])
	}
	return g
}

// reach says of each predicate whether one of some comes to it.
func (g *graph) reach(from ...string) []bool {
	reached := make([]bool, len(g.names))
	var work []int
	find := func(x int) {
		if !reached[x] {
			reached[x] = true
			work = append(work, x)
		}
	}
	for _, name := range from {
		find(g.numbers[name])
	}
	for len(work) > 0 {
		x := work[len(work)-1]
		work = work[:len(work)-1]
		for _, y := range g.steps[x] {
			find(y)
		}
	}
	return reached
}
