package core

import (
	"slices"

	"pedigree/api"
	"pedigree/depend"
	"pedigree/semi"
	"pedigree/term"
)

// comesTo: is a fact among what simple rules come to over facts?
func comesTo(rules []api.Rule, l []api.Fact, goal api.Fact) bool {
	last, others := aimed(rules, goal)
	asks := func(l api.Literal) bool { return l.Atom.Pred == goal.Pred }
	if slices.ContainsFunc(rules, func(r api.Rule) bool { return slices.ContainsFunc(r.Body, asks) }) {
		return isGiven(last, l, goal) || isGiven(rules, l, goal) // the first is mostly soon done, and often enough
	}
	return isGiven(append(others, last...), l, goal)
}

// isGiven: is a fact among what rules come to over facts? Only rules that may have to do with it are run.
func isGiven(rules []api.Rule, l []api.Fact, goal api.Fact) bool {
	is := func(f api.Fact) bool { return f.Pred == goal.Pred && slices.Equal(f.Args, goal.Args) }
	if slices.ContainsFunc(l, is) {
		return true
	}
	some := asked(withBodies(rules, l), goal.Pred)
	if len(some) == 0 {
		return false
	}
	all, _, _ := semi.Run(shortened(some, l), l)
	return slices.ContainsFunc(all, is)
}

// aimed are the rules that can give a fact, as rules that give it or nothing, and those of other predicates. (By itself a rule with a wide head may give more than can be worked out.)
func aimed(rules []api.Rule, goal api.Fact) (last, others []api.Rule) {
	for _, r := range rules {
		if r.Pred != goal.Pred {
			others = append(others, r)
		} else if one, ok := aim(r, goal); ok {
			last = append(last, one)
		}
	}
	return last, others
}

// aim is a rule with its head made a fact; false, if it can't be.
func aim(r api.Rule, goal api.Fact) (api.Rule, bool) {
	head, _ := term.Head(r)
	binds, ok := term.Match(head, goal)
	if !ok {
		return api.Rule{}, false
	}
	var s []api.Pair
	for _, b := range binds {
		s = append(s, api.Pair{Var: b.Var, Term: api.Term{Val: b.Val}})
	}
	out, err := term.ApplyRule(s, r)
	return out, err == api.OK
}

// asked are the rules of the predicates to which one comes.
func asked(rules []api.Rule, pred string) []api.Rule {
	names := depend.Reach(api.Program{Rules: rules}, pred)
	var out []api.Rule
	for _, r := range rules {
		if _, ok := slices.BinarySearch(names, r.Pred); ok {
			out = append(out, r)
		}
	}
	return out
}

// withBodies are the rules all of whose body's predicates have facts, or rules that are such.
func withBodies(rules []api.Rule, l []api.Fact) []api.Rule {
	there := map[string]int{}
	for _, f := range l {
		there[f.Pred]++
	}
	missing := func(l api.Literal) bool { return there[l.Atom.Pred] == 0 }
	var out []api.Rule
	for {
		var waiting []api.Rule
		for _, r := range rules {
			if slices.ContainsFunc(r.Body, missing) {
				waiting = append(waiting, r)
				continue
			}
			there[r.Pred]++
			out = append(out, r)
		}
		if len(waiting) == len(rules) {
			return out
		}
		rules = waiting
	}
}
