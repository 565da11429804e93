package store

import (
	"slices"
	"sort"

	"pedigree/api"
	"pedigree/value"
)

// The lists here are in order. One of them may be very much longer than the other: so what lies between two places is stepped over, not gone through.

// below is how many facts of a list are below one: it looks near the front first.
func below(l []api.Fact, f api.Fact) int {
	far := 1
	for far <= len(l) && value.CompareFacts(l[far-1], f) < 0 {
		far *= 2
	}
	from, to := far/2, min(far, len(l))
	n, _ := slices.BinarySearchFunc(l[from:to], f, value.CompareFacts)
	return from + n
}

func stands(l []api.Fact, f api.Fact) bool {
	_, found := slices.BinarySearchFunc(l, f, value.CompareFacts)
	return found
}

// without answers the facts of a list that do not stand in another one.
func without(l, others []api.Fact) []api.Fact {
	out := make([]api.Fact, 0, len(l))
	for len(l) > 0 && len(others) > 0 {
		n := below(l, others[0])
		out = append(out, l[:n]...)
		l = l[n:]
		if len(l) == 0 {
			break
		}
		others = others[below(others, l[0]):]
		if len(others) > 0 && value.CompareFacts(others[0], l[0]) == 0 {
			l, others = l[1:], others[1:]
		}
	}
	return append(out, l...)
}

// with answers the facts of two lists that have none in common.
func with(l, others []api.Fact) []api.Fact {
	out := make([]api.Fact, 0, len(l)+len(others))
	for _, f := range others {
		n := below(l, f)
		out = append(append(out, l[:n]...), f)
		l = l[n:]
	}
	return append(out, l...)
}

// ofName answers the facts of a predicate: a piece of the list.
func ofName(l []api.Fact, name string) []api.Fact {
	from := sort.Search(len(l), func(i int) bool { return l[i].Pred >= name })
	to := sort.Search(len(l), func(i int) bool { return l[i].Pred > name })
	return l[from:to]
}
