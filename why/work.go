package why

import (
	"slices"

	"pedigree/api"
	"pedigree/check"
	"pedigree/depend"
	"pedigree/group"
	"pedigree/join"
	"pedigree/model"
	"pedigree/value"
)

// work is what proofs of a predicate's facts hang on: the given facts, rules and model of those predicates that it comes to.
type work struct {
	*book
	given []api.Fact // in order
	rules []*rule    // by their numbers; nil: one that proofs don't hang on
}

// newWork answers why a program and facts have no model, or what proofs of a predicate's facts hang on. (P23.1)
func newWork(p api.Program, l []api.Fact, pred string) (*work, api.Errno) {
	if err := check.Job(p.Rules, l); err != api.OK {
		return nil, err
	}
	if _, _, err := depend.Levels(p); err != api.OK {
		return nil, err
	}
	names := depend.Reach(p, pred)
	out := &work{rules: make([]*rule, len(p.Rules))}
	var some api.Program
	for i, r := range p.Rules {
		if _, ok := slices.BinarySearch(names, r.Pred); ok {
			some.Rules = append(some.Rules, r)
			out.rules[i] = newRule(i, r)
		}
	}
	for _, f := range l {
		if _, ok := slices.BinarySearch(names, f.Pred); ok {
			out.given = append(out.given, f)
		}
	}
	out.given = value.Facts(out.given)
	// Fewer rules and facts than those that have levels have them too.
	m, _ := model.Model(some, out.given)
	out.book = newBook(m)
	return out, api.OK
}

// place answers where a fact stands in the model.
func (w *work) place(f api.Fact) (int, bool) {
	return slices.BinarySearchFunc(w.facts, f, value.CompareFacts)
}

func (w *work) isGiven(f api.Fact) bool {
	_, ok := slices.BinarySearchFunc(w.given, f, value.CompareFacts)
	return ok
}

// ways answers all ways in which a rule gives facts of the model, in the order of its solutions. (Nothing refuses rules and facts that have a model.)
func (w *work) ways(r *rule) []way {
	facts := w.asked(r.Body)
	solutions, _ := join.Solutions(r.Body, facts)
	if !r.plain {
		given, _ := group.Gives(r.Rule, facts)
		return w.grouped(r, given, solutions)
	}
	out := make([]way, len(solutions))
	for i := range solutions {
		out[i] = way{rule: r, at: w.pool(&r.gives, solutions[i]).places[0], solutions: solutions[i : i+1]}
	}
	return out
}

// grouped answers one way for each group that gives a fact: no two groups have the same plain arguments.
func (w *work) grouped(r *rule, given []api.Fact, solutions [][]api.Bind) []way {
	out := make([]way, len(given))
	groups := map[string]int{}
	for i, f := range given {
		out[i] = way{rule: r}
		out[i].at, _ = w.place(f)
		groups[pack(f.Args, r.gives.known)] = i
	}
	for _, s := range solutions {
		// A group whose sum is nothing gives no fact.
		if i, ok := groups[pack(r.gives.under(s).Args, r.gives.known)]; ok {
			out[i].solutions = append(out[i].solutions, s)
		}
	}
	return out
}
