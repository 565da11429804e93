package depend_test

import (
	"slices"

	"pedigree/api"
	"pedigree/check"
)

// What the chapter says, word by word and slowly, over lists alone.

func slowAggregate(r api.Rule) bool {
	for _, a := range r.Head {
		if a.Agg != api.AggNone {
			return true
		}
	}
	return false
}

func slowKind(r api.Rule, l api.Literal) api.EdgeKind {
	switch {
	case l.Kind == api.LNot:
		return api.EdgeNot
	case slowAggregate(r):
		return api.EdgeAgg
	case check.Makes(r):
		return api.EdgeMake
	}
	return api.EdgePlain
}

func slowEdges(p api.Program) []api.Edge {
	var out []api.Edge
	for i, r := range p.Rules {
		for _, l := range r.Body {
			if l.Kind == api.LPos || l.Kind == api.LNot {
				out = append(out, api.Edge{From: r.Pred, To: l.Atom.Pred, Kind: slowKind(r, l), Rule: i})
			}
		}
	}
	return out
}

// slowPreds are the predicates of a program, rising.
func slowPreds(p api.Program) []string {
	var out []string
	for _, r := range p.Rules {
		out = append(out, r.Pred)
	}
	for _, e := range slowEdges(p) {
		out = append(out, e.To)
	}
	slices.Sort(out)
	return slices.Compact(out)
}

// slowReach are the names to which one comes: itself, and, over and over, what a step leads to.
func slowReach(edges []api.Edge, pred string) []string {
	out := []string{pred}
	for grown := true; grown; {
		grown = false
		for _, e := range edges {
			if slices.Contains(out, e.From) && !slices.Contains(out, e.To) {
				out = append(out, e.To)
				grown = true
			}
		}
	}
	slices.Sort(out)
	return out
}

// slowPartOf are the predicates that come to one and to which it comes.
func slowPartOf(edges []api.Edge, pred string) []string {
	var out []string
	for _, x := range slowReach(edges, pred) {
		if slices.Contains(slowReach(edges, x), pred) {
			out = append(out, x)
		}
	}
	return out
}

func slowParts(p api.Program) [][]string {
	edges := slowEdges(p)
	var out [][]string
	var standing []string
	mayStand := func(part []string) bool {
		for _, x := range part {
			for _, y := range slowReach(edges, x) {
				if !slices.Contains(part, y) && !slices.Contains(standing, y) {
					return false
				}
			}
		}
		return true
	}
	preds := slowPreds(p)
	for len(standing) < len(preds) {
		// The names rise: so the first part that may stand is the one whose first name is least.
		for _, x := range preds {
			if slices.Contains(standing, x) {
				continue
			}
			if part := slowPartOf(edges, x); mayStand(part) {
				out = append(out, part)
				standing = append(standing, part...)
				break
			}
		}
	}
	return out
}

// slowLevels takes for a level the most strict steps that stand on one way from its predicate.
func slowLevels(p api.Program) ([]api.Level, int, api.Errno) {
	edges := slowEdges(p)
	for _, e := range edges {
		if e.Kind != api.EdgePlain && slices.Contains(slowReach(edges, e.To), e.From) {
			code := map[api.EdgeKind]api.Errno{api.EdgeNot: api.ErrNegCycle, api.EdgeAgg: api.ErrAggCycle, api.EdgeMake: api.ErrMakeCycle}[e.Kind]
			return nil, e.Rule, code
		}
	}
	var out []api.Level
	for _, x := range slowPreds(p) {
		out = append(out, api.Level{Pred: x, N: mostStrict(edges, x, nil)})
	}
	return out, 0, api.OK
}

// mostStrict is the most strict steps that a way from a predicate has on which no step stands twice.
func mostStrict(edges []api.Edge, from string, gone []api.Edge) int32 {
	var most int32
	for _, e := range edges {
		if e.From != from || slices.ContainsFunc(gone, func(x api.Edge) bool { return x.From == e.From && x.To == e.To && x.Kind == e.Kind }) {
			continue
		}
		count := mostStrict(edges, e.To, append(slices.Clone(gone), e))
		if e.Kind != api.EdgePlain {
			count++
		}
		most = max(most, count)
	}
	return most
}

func slowAhead(p api.Program) []string {
	var first []string
	for _, r := range p.Rules {
		if slowAggregate(r) || check.Makes(r) {
			first = append(first, r.Pred)
		}
		for _, l := range r.Body {
			if l.Kind == api.LNot {
				first = append(first, l.Atom.Pred)
			}
		}
	}
	edges := slowEdges(p)
	var out []string
	for _, x := range first {
		out = append(out, slowReach(edges, x)...)
	}
	return out
}

func slowSplit(p api.Program) (ahead, plain api.Program) {
	names := slowAhead(p)
	for _, r := range p.Rules {
		if slices.Contains(names, r.Pred) {
			ahead.Rules = append(ahead.Rules, r)
		} else {
			plain.Rules = append(plain.Rules, r)
		}
	}
	return ahead, plain
}

// slowOneLevel goes by DOC.md: does a rule depend strictly on a predicate for which one of the rules is?
func slowOneLevel(l []api.Rule) bool {
	for _, r := range l {
		if slowAggregate(r) {
			return false
		}
		for _, lit := range r.Body {
			strict := lit.Kind == api.LNot || lit.Kind == api.LPos && check.Makes(r)
			if strict && slices.ContainsFunc(l, func(x api.Rule) bool { return x.Pred == lit.Atom.Pred }) {
				return false
			}
		}
	}
	return true
}

func slowPlain(l []api.Rule) bool {
	return slowOneLevel(l) && !slices.ContainsFunc(l, check.Makes)
}
