package types

import (
	"pedigree/api"
	"pedigree/check"
)

// arities says how many columns the predicate of a name has.
type arities map[string]int

// allow: may a predicate of this name have so many columns?
func (a arities) allow(pred string, columns int) bool {
	arity, known := a[pred]
	return !known || arity == columns
}

// takeRule lets a rule's predicates in; false: one has another number of columns than within the rule or ahead of it.
func (a arities) takeRule(r api.Rule) bool {
	preds, err := check.Preds(api.Program{Rules: []api.Rule{r}}, nil)
	if err != api.OK {
		return false
	}
	for _, p := range preds {
		if !a.allow(p.Name, p.Arity) {
			return false
		}
		a[p.Name] = p.Arity
	}
	return true
}

// firstUnlike answers the number of the first rule that does not agree with those ahead of it; there is one.
func firstUnlike(rules []api.Rule) int {
	known := arities{}
	at := 0
	for known.takeRule(rules[at]) {
		at++
	}
	return at
}
