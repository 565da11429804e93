package model

import (
	"maps"
	"slices"

	"pedigree/api"
	"pedigree/depend"
)

// levels of a program.
type levels struct {
	of    map[string]int32     // the level of each predicate that stands in the program; of the others 0
	rules map[int32][]api.Rule // the rules whose predicate has a level, by its number
}

func levelsOf(p api.Program) (levels, api.Errno) {
	list, _, err := depend.Levels(p)
	if err != api.OK {
		return levels{}, err
	}
	out := levels{map[string]int32{}, map[int32][]api.Rule{}}
	for _, l := range list {
		out.of[l.Pred] = l.N
	}
	for _, r := range p.Rules {
		n := out.of[r.Pred]
		out.rules[n] = append(out.rules[n], r)
	}
	return out, api.OK
}

// upto answers what holds of the predicates whose level is at most the last one. No rule looks above its own level, so given facts of higher ones are left out from the beginning on.
func (v levels) upto(last int32, given []api.Fact) []api.Fact {
	there := named{}
	there.take(slices.DeleteFunc(slices.Clone(given), func(f api.Fact) bool { return v.of[f.Pred] > last }))
	for _, n := range slices.Sorted(maps.Keys(v.rules)) {
		if n > last {
			break
		}
		for _, t := range turnsOf(v.rules[n]) {
			there.take(t.more(there))
		}
	}
	return there.all()
}
