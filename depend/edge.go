package depend

import (
	"slices"

	"pedigree/api"
	"pedigree/check"
)

func isAtom(l api.Literal) bool { return l.Kind == api.LPos || l.Kind == api.LNot }

func isStrict(k api.EdgeKind) bool { return k != api.EdgePlain }

// hasAggregate takes any Agg for one: the rule may be none that may be used.
func hasAggregate(r api.Rule) bool {
	return slices.ContainsFunc(r.Head, func(a api.Arg) bool { return a.Agg != api.AggNone })
}

// reasonOf is why a rule's predicate depends on the predicates of those atoms that stand under no not.
func reasonOf(r api.Rule) api.EdgeKind {
	if hasAggregate(r) {
		return api.EdgeAgg
	}
	if check.Makes(r) {
		return api.EdgeMake
	}
	return api.EdgePlain
}

func kindOf(l api.Literal, reason api.EdgeKind) api.EdgeKind {
	if l.Kind == api.LNot {
		return api.EdgeNot
	}
	return reason
}

// cycleError is why there are no levels, if an edge of this kind, a strict one, lies within a part.
func cycleError(k api.EdgeKind) api.Errno {
	switch k {
	case api.EdgeNot:
		return api.ErrNegCycle
	case api.EdgeAgg:
		return api.ErrAggCycle
	}
	return api.ErrMakeCycle
}

// firstAhead are the predicates that are ahead for a reason of their own, not since another one comes to them.
func firstAhead(rules []api.Rule, edges []api.Edge) []string {
	var names []string
	for _, r := range rules {
		if isStrict(reasonOf(r)) {
			names = append(names, r.Pred)
		}
	}
	for _, e := range edges {
		if e.Kind == api.EdgeNot {
			names = append(names, e.To)
		}
	}
	return names
}
