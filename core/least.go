package core

import (
	"slices"

	"pedigree/api"
	"pedigree/check"
)

// follows: does a rule follow from rules? It does, if they come to its head from its own body, frozen.
func (f *freezer) follows(rules []api.Rule, r api.Rule) bool {
	body, head := f.freeze(r)
	return comesTo(rules, body, head)
}

func (f *freezer) allFollow(rules, from []api.Rule) bool {
	return !slices.ContainsFunc(rules, func(r api.Rule) bool { return !f.follows(from, r) })
}

// pass answers what one pass leaves of rules, and whether it took anything away. (P21.4)
func (f *freezer) pass(rules []api.Rule) (left []api.Rule, took bool) {
	left = slices.Clone(rules)
away:
	for i := len(left) - 1; i >= 0; i-- {
		if others := without(left, i); f.follows(others, left[i]) {
			left, took = others, true
			continue away
		}
		for j := len(left[i].Body) - 1; j >= 0; j-- {
			less := left[i]
			less.Body = without(less.Body, j)
			if check.Rule(less) == api.OK && f.follows(left, less) {
				left[i], took = less, true
			}
		}
	}
	return left, took
}

// without is a list without its thing of a number.
func without[T any](l []T, n int) []T {
	out := slices.Clone(l)
	copy(out[n:], out[n+1:])
	return out[:len(l)-1]
}
