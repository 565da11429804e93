package par

import (
	"maps"
	"slices"

	"pedigree/api"
	"pedigree/depend"
	"pedigree/term"
)

// level is the rules whose predicates have one level.
type level struct {
	aggregates, others []api.Rule
}

// levelsOf answers the levels that the predicate of some rule has, from the least on.
func levelsOf(p api.Program) ([]level, api.Errno) {
	list, _, err := depend.Levels(p)
	if err != api.OK {
		return nil, err
	}
	number := map[string]int32{}
	for _, x := range list {
		number[x.Pred] = x.N
	}
	all := map[int32]level{}
	for _, r := range p.Rules {
		n := number[r.Pred]
		all[n] = all[n].with(r)
	}
	var out []level
	for _, n := range slices.Sorted(maps.Keys(all)) {
		out = append(out, all[n])
	}
	return out, api.OK
}

func (l level) with(r api.Rule) level {
	if _, plain := term.Head(r); plain {
		l.others = append(l.others, r)
	} else {
		l.aggregates = append(l.aggregates, r)
	}
	return l
}
