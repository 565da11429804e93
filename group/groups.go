package group

import (
	"slices"
	"strings"

	"pedigree/api"
	"pedigree/value"
)

// groups holds, by the plain arguments' values, what the head's arguments come to so far, one behind the other.
type groups map[string][]api.Value

// take puts one more solution into its group.
func (g groups) take(head []fold, binds []api.Bind) {
	values := make([]api.Value, len(head))
	for i, f := range head {
		values[i] = f.read(binds)
	}
	key := keyOf(head, values)
	soFar, ok := g[key]
	if !ok {
		for _, f := range head {
			soFar = append(soFar, f.start)
		}
		g[key] = soFar
	}
	for i, f := range head {
		soFar[i] = f.next(soFar[i], values[i])
	}
}

// keyOf answers a text that no other plain values have: a value's own text has a comma between quotes alone.
func keyOf(head []fold, values []api.Value) string {
	var shown []string
	for i, f := range head {
		if f.plain {
			s, _ := value.Show(values[i])
			shown = append(shown, s)
		}
	}
	return strings.Join(shown, ", ")
}

// give answers what the groups give, in no order.
func (g groups) give(pred string) []api.Fact {
	var out []api.Fact
	for _, values := range g {
		if !slices.ContainsFunc(values, isNothing) {
			out = append(out, api.Fact{Pred: pred, Args: values})
		}
	}
	return out
}
