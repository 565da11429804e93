package estimate

import (
	"pedigree/api"
	"pedigree/value"
)

// branch is a value behind something that has a number: a column, or the beginning of a tuple.
type branch struct {
	at  int
	val api.Value
}

// unlikeTuples counts them. Tuples are lists, and no key of a map is one: so each beginning of a tuple has a number, by which and by the next value the longer beginning is found.
func unlikeTuples(l [][]api.Value) int {
	longer := map[branch]int{}
	whole := map[int]struct{}{}
	for _, tuple := range l {
		at := 0
		for _, v := range tuple {
			b := branch{at, v}
			next, old := longer[b]
			if !old {
				next = len(longer) + 1
				longer[b] = next
			}
			at = next
		}
		whole[at] = struct{}{}
	}
	return len(whole)
}

// unlikeInColumns counts, for each column of the longest tuple, the values in it.
func unlikeInColumns(l [][]api.Value) []int {
	seen := map[branch]struct{}{}
	var out []int
	for _, tuple := range l {
		for i, v := range tuple {
			if i == len(out) {
				out = append(out, 0)
			}
			b := branch{i, v}
			if _, old := seen[b]; !old {
				seen[b] = struct{}{}
				out[i]++
			}
		}
	}
	return out
}

// numbersOf answers what stands in a column of the facts of a name, as far as it is numbers, in the order of the unlike facts.
func numbersOf(l []api.Fact, pred string, col int) []float64 {
	var some []api.Fact
	for _, f := range l {
		if f.Pred == pred && hasNumber(f.Args, col) {
			some = append(some, f)
		}
	}
	var out []float64
	for _, f := range value.Facts(some) {
		out = append(out, float64(f.Args[col].Num))
	}
	return out
}

func hasNumber(tuple []api.Value, col int) bool {
	if col < 0 || col >= len(tuple) {
		return false
	}
	return tuple[col].Kind == api.KNum && value.Check(tuple[col]) == api.OK
}
