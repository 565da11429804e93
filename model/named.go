package model

import (
	"maps"
	"slices"

	"pedigree/api"
	"pedigree/value"
)

// named has facts by their names, those of each name in order.
type named map[string][]api.Fact

// take lets facts come to those that are there.
func (n named) take(l []api.Fact) {
	came := map[string][]api.Fact{}
	for _, f := range l {
		came[f.Pred] = append(came[f.Pred], f)
	}
	for name, some := range came {
		n[name] = value.Facts(slices.Concat(n[name], some))
	}
}

// lacked answers those of some facts that are not there.
func (n named) lacked(l []api.Fact) []api.Fact {
	var out []api.Fact
	for _, f := range l {
		if _, has := slices.BinarySearchFunc(n[f.Pred], f, value.CompareFacts); !has {
			out = append(out, f)
		}
	}
	return out
}

// asked answers the facts whose names stand in the rules' bodies: handing all facts to each level would take far longer where there are many levels.
func (n named) asked(rules ...api.Rule) []api.Fact {
	var out []api.Fact
	stood := map[string]struct{}{}
	for _, r := range rules {
		for _, lit := range r.Body {
			name := lit.Atom.Pred
			if _, again := stood[name]; !again {
				stood[name] = struct{}{}
				out = append(out, n[name]...)
			}
		}
	}
	return out
}

// all answers the facts in order.
func (n named) all() []api.Fact {
	var out []api.Fact
	for _, name := range slices.Sorted(maps.Keys(n)) {
		out = append(out, n[name]...)
	}
	return out
}
