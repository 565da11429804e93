package core

import (
	"slices"
	"strconv"

	"pedigree/api"
	"pedigree/term"
)

// shortened are rules whose bodies have two atoms at most, and which come over these facts to the same ones, but for predicates of new names. (A run tries all joins of a body, and a long one may have more than can ever be tried. In steps of two atoms, what several joins agree in as far as the atoms behind can see is one fact of a predicate in between.)
func shortened(rules []api.Rule, l []api.Fact) []api.Rule {
	n := namer{taken: map[string]int{}}
	for _, f := range l {
		n.taken[f.Pred]++
	}
	for _, r := range rules {
		n.taken[r.Pred]++ // and of what their bodies ask for there are facts or rules
	}
	var out []api.Rule
	for _, r := range rules {
		for len(r.Body) > 2 {
			var first api.Rule
			first, r = n.split(r)
			out = append(out, first)
		}
		out = append(out, r)
	}
	return out
}

// namer makes names of predicates that are not taken.
type namer struct {
	taken map[string]int
	next  int
}

func (n *namer) name() string {
	for {
		s := "q_" + strconv.Itoa(n.next)
		n.next++
		if n.taken[s] == 0 {
			return s
		}
	}
}

// split makes two rules of one: a first one of its first atom and another, and the rule with what that gives in their place.
func (n *namer) split(r api.Rule) (first, rest api.Rule) {
	first, rest = nextStep(r, 1)
	for i := 2; i < len(r.Body); i++ {
		if f, l := nextStep(r, i); len(f.Head) < len(first.Head) {
			first, rest = f, l
		}
	}
	first.Pred = n.name()
	rest.Body[0].Atom.Pred = first.Pred
	return first, rest
}

// nextStep splits a rule after its first atom and that of a number: the first rule's head are the variables that are still needed.
func nextStep(r api.Rule, number int) (first, rest api.Rule) {
	first.Body = []api.Literal{r.Body[0], r.Body[number]}
	rest = api.Rule{Pred: r.Pred, Head: r.Head, Body: slices.Concat(r.Body[1:number], r.Body[number+1:])}
	needed := term.RuleVars(rest)
	between := api.Literal{Kind: api.LPos}
	for _, name := range term.RuleVars(first) {
		if slices.Contains(needed, name) {
			between.Atom.Args = append(between.Atom.Args, api.Term{Var: name})
			first.Head = append(first.Head, api.Arg{Term: api.Term{Var: name}})
		}
	}
	rest.Body = slices.Insert(rest.Body, 0, between)
	return first, rest
}
