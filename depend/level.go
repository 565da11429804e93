package depend

import "pedigree/api"

// bound says that the part at one place stands so many levels, 0 or 1, above another one at least.
type bound struct {
	high, low int
	above     int32
}

// bounds are those of the edges from part to part: within a part all have one level.
func (g *graph) bounds(edges []api.Edge, places []int) []bound {
	var out []bound
	for _, e := range edges {
		b := bound{high: places[g.numbers[e.From]], low: places[g.numbers[e.To]]}
		if isStrict(e.Kind) {
			b.above = 1
		}
		if b.high != b.low {
			out = append(out, b)
		}
	}
	return out
}

// raise answers the least levels of so many parts that keep to the bounds. It ends, since no part is bound to itself, through others neither.
func raise(count int, bounds []bound) []int32 {
	levels := make([]int32, count)
again:
	raised := false
	for _, b := range bounds {
		if least := levels[b.low] + b.above; levels[b.high] < least {
			levels[b.high] = least
			raised = true
		}
	}
	if raised {
		goto again
	}
	return levels
}
