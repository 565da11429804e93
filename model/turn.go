package model

import (
	"pedigree/api"
	"pedigree/group"
	"pedigree/semi"
	"pedigree/term"
)

// turn of a level's work: it is given what is there, and gives what is more.
type turn struct {
	more func(there named) []api.Fact
}

// turnsOf answers the turns of a level's rules, one behind the other. The aggregates come first: they look at lower levels alone, and what they give the other rules may ask for.
func turnsOf(rules []api.Rule) []turn {
	var out []turn
	var others []api.Rule
	for _, r := range rules {
		if _, plain := term.Head(r); plain {
			others = append(others, r)
		} else {
			out = append(out, aggregate(r))
		}
	}
	return append(out, rounds(others))
}

// aggregate leaves out the error: Gives refuses nothing that check.Job has taken with all rules and facts.
func aggregate(r api.Rule) turn {
	return turn{func(there named) []api.Fact {
		given, _ := group.Gives(r, there.asked(r))
		return there.lacked(given)
	}}
}

// rounds leaves it out too: the rules of a level that have no aggregate are of one level.
func rounds(rules []api.Rule) turn {
	return turn{func(there named) []api.Fact {
		all, _, _ := semi.Run(rules, there.asked(rules...))
		return there.lacked(all)
	}}
}
