package check

import (
	"slices"
	"strings"

	"pedigree/api"
	"pedigree/term"
)

// Input: the first thing that is wrong with a program, facts and a query as a user may hand them in. (P7.7)
func Input(p api.Program, l []api.Fact, q api.Atom) api.Refusal {
	c := columns{}
	if at, err := c.inputRules(p.Rules); err != api.OK {
		return api.Refusal{Part: api.PartProgram, Code: err, At: at}
	}
	if at, err := c.inputFacts(l); err != api.OK {
		return api.Refusal{Part: api.PartFacts, Code: err, At: at}
	}
	if err := c.inputQuery(q); err != api.OK {
		return api.Refusal{Part: api.PartQuery, Code: err}
	}
	return api.Refusal{}
}

// inputRules looks at the columns only when each rule by itself is fine: what is wrong with a rule is told ahead of what is wrong between two.
func (c columns) inputRules(rules []api.Rule) (int, api.Errno) {
	if len(rules) > api.MaxRules {
		return 0, api.ErrSize
	}
	for i, r := range rules {
		if err := inputRule(r); err != api.OK {
			return i, err
		}
	}
	for i, r := range rules {
		if !c.takeAll(rulePreds(r)) {
			return i, api.ErrArity
		}
	}
	return 0, api.OK
}

func inputRule(r api.Rule) api.Errno {
	if err := term.CheckRule(r); err != api.OK {
		return err
	}
	if len(r.Body) > api.MaxLits {
		return api.ErrSize
	}
	if err := inputPreds(rulePreds(r), term.RuleVars(r)); err != api.OK {
		return err
	}
	return Rule(r)
}

func (c columns) inputFacts(l []api.Fact) (int, api.Errno) {
	if len(l) > api.MaxFacts {
		return 0, api.ErrSize
	}
	for i, f := range l {
		if err := c.inputFact(f); err != api.OK {
			return i, err
		}
	}
	return 0, api.OK
}

func (c columns) inputFact(f api.Fact) api.Errno {
	if err := checkFact(f); err != api.OK {
		return err
	}
	return c.inputPred(factPred(f), nil)
}

func (c columns) inputQuery(q api.Atom) api.Errno {
	if err := term.CheckAtom(q); err != api.OK {
		return err
	}
	return c.inputPred(atomPred(q), term.AtomVars(q))
}

func (c columns) inputPred(p api.Pred, variables []string) api.Errno {
	if err := inputPreds([]api.Pred{p}, variables); err != api.OK {
		return err
	}
	if !c.take(p) {
		return api.ErrArity
	}
	return api.OK
}

// inputPreds refuses what is too large for a user ahead of what is reserved.
func inputPreds(l []api.Pred, variables []string) api.Errno {
	if slices.ContainsFunc(l, isLarge) || slices.ContainsFunc(variables, isLong) {
		return api.ErrSize
	}
	if slices.ContainsFunc(l, isReserved) {
		return api.ErrReserved
	}
	return api.OK
}

func isLarge(p api.Pred) bool { return isLong(p.Name) || p.Arity > api.MaxArity }

func isLong(name string) bool { return len(name) > api.MaxName }

func isReserved(p api.Pred) bool { return strings.HasPrefix(p.Name, "q_") }
