package par

import (
	"maps"
	"slices"

	"pedigree/api"
	"pedigree/plan"
)

// none is the number of no literal.
const none = -1

// turn is a rule with the literal that reads what is new and nothing else; if that is none, each reads all that is there.
type turn struct {
	plan  api.Plan
	fresh int
}

// turns of rules.
type turns struct {
	whole []turn            // of each rule the one in which each literal reads all
	by    map[string][]turn // the others, by the predicate of the literal that reads what is new
}

func turnsOf(rules []api.Rule) turns {
	out := turns{by: map[string][]turn{}}
	heads := map[string]struct{}{}
	for _, r := range rules {
		heads[r.Pred] = struct{}{}
		out.whole = append(out.whole, turnOf(r, none))
	}
	for _, r := range rules {
		for i, lit := range r.Body {
			name := lit.Atom.Pred
			// Nothing comes of a predicate for which there is no rule.
			if _, grows := heads[name]; grows && lit.Kind == api.LPos {
				out.by[name] = append(out.by[name], turnOf(r, i))
			}
		}
	}
	return out
}

// turnOf lets the literal that reads what is new, which is mostly little, be taken first. Make refuses nothing that check.Job has taken.
func turnOf(r api.Rule, fresh int) turn {
	p, _ := plan.Make(r, nil, fresh)
	return turn{p, fresh}
}

// asking answers the turns for which there is something new, if facts of these predicates are.
func (t turns) asking(fresh sizes) []turn {
	var out []turn
	for _, name := range slices.Sorted(maps.Keys(fresh)) {
		out = append(out, t.by[name]...)
	}
	return out
}

// span is which facts of its predicate a literal reads, by their numbers: from one on up to the one ahead of another.
type span struct {
	from, to int
}

// jobs answers the joins of a turn whose literals read these spans: in as many parts as there are workers, each with another part of what the atom that is taken first reads. (A turn without an atom has one join at most.)
func (t turn) jobs(reads []span, workers int) []job {
	first, ok := t.firstAtom()
	if !ok {
		return []job{t.job(reads)}
	}
	whole := reads[first]
	size := whole.to - whole.from
	parts := min(size, workers)
	var out []job
	for i := range parts {
		own := slices.Clone(reads)
		own[first] = span{whole.from + size*i/parts, whole.from + size*(i+1)/parts}
		out = append(out, t.job(own))
	}
	return out
}

// firstAtom answers the number of the LPos that is taken first; false: there is none.
func (t turn) firstAtom() (int, bool) {
	for _, s := range t.plan.Steps {
		if t.plan.Rule.Body[s.Lit].Kind == api.LPos {
			return s.Lit, true
		}
	}
	return 0, false
}

func (t turn) job(reads []span) job {
	out := job{plan: t.plan}
	for _, s := range reads {
		out.from = append(out.from, s.from)
		out.to = append(out.to, s.to)
	}
	return out
}
