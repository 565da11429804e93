package value

import (
	"cmp"
	"slices"
	"strings"

	"pedigree/api"
)

// CompareTuples: -1, 0 or 1, by the order of tuples. (P1.7)
func CompareTuples(a, b []api.Value) int { return slices.CompareFunc(a, b, Compare) }

// CompareFacts: -1, 0 or 1, by the order of facts. (P1.7)
func CompareFacts(a, b api.Fact) int {
	return cmp.Or(strings.Compare(a.Pred, b.Pred), CompareTuples(a.Args, b.Args))
}

// Tuples: the tuples in their order, each once. (P1.8)
func Tuples(l [][]api.Value) [][]api.Value { return eachOnce(l, CompareTuples, copyTuple) }

// Facts: the facts in their order, each once. (P1.8)
func Facts(l []api.Fact) []api.Fact { return eachOnce(l, CompareFacts, copyFact) }

// eachOnce copies what it answers one by one, so that no spare room of the answer holds what was handed in.
func eachOnce[T any](l []T, compare func(a, b T) int, copyOf func(T) T) []T {
	rising := slices.Clone(l)
	slices.SortFunc(rising, compare)
	var out []T
	for i, x := range rising {
		if i == 0 || compare(rising[i-1], x) != 0 {
			out = append(out, copyOf(x))
		}
	}
	return out
}

// copyTuple answers nil for every empty tuple, so that which one of them is kept cannot be seen.
func copyTuple(t []api.Value) []api.Value { return append([]api.Value(nil), t...) }

func copyFact(f api.Fact) api.Fact { return api.Fact{Pred: f.Pred, Args: copyTuple(f.Args)} }
