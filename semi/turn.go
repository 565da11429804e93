package semi

import (
	"pedigree/api"
	"pedigree/plan"
)

// none is the number of no literal.
const none = -1

// turn is a rule with the literal that reads what is new and nothing else; if that is none, each reads all that is there.
type turn struct {
	plan  api.Plan
	fresh int
}

// turns of rules.
type turns struct {
	whole []turn            // of each rule the one in which each literal reads all
	by    map[string][]turn // the others, by the predicate of the literal that reads what is new
}

func turnsOf(rules []api.Rule) turns {
	out := turns{by: map[string][]turn{}}
	heads := map[string]struct{}{}
	for _, r := range rules {
		heads[r.Pred] = struct{}{}
		out.whole = append(out.whole, turnOf(r, none))
	}
	for _, r := range rules {
		for i, lit := range r.Body {
			name := lit.Atom.Pred
			// Nothing comes of a predicate for which there is no rule, but what is given.
			if _, grows := heads[name]; grows && lit.Kind == api.LPos {
				out.by[name] = append(out.by[name], turnOf(r, i))
			}
		}
	}
	return out
}

// turnOf lets the literal that reads what is new, which is mostly little, be taken first. Make refuses nothing that check.Job has taken.
func turnOf(r api.Rule, fresh int) turn {
	p, _ := plan.Make(r, nil, fresh)
	return turn{p, fresh}
}

// asking answers the turns for which there is something new, if these facts are.
func (t turns) asking(part []api.Fact) []turn {
	var out []turn
	stood := map[string]struct{}{}
	for _, f := range part {
		if _, again := stood[f.Pred]; !again {
			stood[f.Pred] = struct{}{}
			out = append(out, t.by[f.Pred]...)
		}
	}
	return out
}
