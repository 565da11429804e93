package subsume

import (
	"slices"

	"pedigree/api"
	"pedigree/check"
	"pedigree/depend"
	"pedigree/term"
)

// refuse answers why rules may not be pruned for a query. (P20.4)
func refuse(rules []api.Rule, q api.Atom) api.Errno {
	if err := check.Job(rules, nil); err != api.OK {
		return err
	}
	if err := term.CheckAtom(q); err != api.OK {
		return err
	}
	// Of a fact Preds looks at the name and the number of columns alone: so the query can stand there as one.
	asked := api.Fact{Pred: q.Pred, Args: make([]api.Value, len(q.Args))}
	_, err := check.Preds(api.Program{Rules: rules}, []api.Fact{asked})
	return err
}

// needed are those of rules of use that no other one makes needless.
func needed(rules []api.Rule) []api.Rule {
	numbers := map[string][]int{} // by the predicate: a rule subsumes none of another one
	for i, r := range rules {
		numbers[r.Pred] = append(numbers[r.Pred], i)
	}
	var out []api.Rule
	for i, r := range rules {
		if !slices.ContainsFunc(numbers[r.Pred], func(other int) bool { return makesNeedless(rules, other, i) }) {
			out = append(out, r)
		}
	}
	return out
}

// makesNeedless: is the rule of the second number away by that of the first? Of two that subsume each other the first one stays.
func makesNeedless(rules []api.Rule, a, b int) bool {
	return a != b && subsumes(rules[a], rules[b]) && (a < b || !subsumes(rules[b], rules[a]))
}

func subsumes(a, b api.Rule) bool {
	_, ok := firstMapping(a, b)
	return ok
}

// reached are the rules of predicates to which one comes.
func reached(rules []api.Rule, pred string) []api.Rule {
	names := depend.Reach(api.Program{Rules: rules}, pred)
	var out []api.Rule
	for _, r := range rules {
		if _, ok := slices.BinarySearch(names, r.Pred); ok {
			out = append(out, r)
		}
	}
	return out
}
