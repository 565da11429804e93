package change

import (
	"pedigree/api"
	"pedigree/depend"
	"pedigree/term"
)

// program is a view's rules, with what a turn asks of them. It never changes, so views may share one.
type program struct {
	rules []api.Rule
	by    map[string][]api.Rule // by their predicates
	preds map[string]*pred      // that stand in the rules
	top   int32                 // the greatest level
}

// pred is what a program says of a predicate.
type pred struct {
	number  int
	level   int32
	readers []string // the predicates of the rules that ask for it
}

// programOf takes one whose rules may be used, and which has levels.
func programOf(p api.Program) *program {
	out := &program{by: map[string][]api.Rule{}, preds: map[string]*pred{}}
	for _, r := range p.Rules {
		own, _ := term.ApplyRule(nil, r)
		out.rules = append(out.rules, own)
		out.by[r.Pred] = append(out.by[r.Pred], own)
	}
	levels, _, _ := depend.Levels(p)
	for i, l := range levels {
		out.preds[l.Pred] = &pred{number: i, level: l.N}
		out.top = max(out.top, l.N)
	}
	for _, e := range depend.Edges(p) {
		to := out.preds[e.To]
		to.readers = append(to.readers, e.From)
	}
	return out
}

// pred answers what is known of a predicate. One that does not stand in the rules is of level 0, and nobody asks for it.
func (p *program) pred(name string) pred {
	if known := p.preds[name]; known != nil {
		return *known
	}
	return pred{}
}
