package join

import (
	"slices"

	"pedigree/api"
	"pedigree/check"
	"pedigree/plan"
	"pedigree/term"
	"pedigree/value"
)

// anyName is the name of a rule whose name nobody sees.
const anyName = "p"

// Solutions: the solutions of a body over facts, in order. (P13.6)
func Solutions(body []api.Literal, l []api.Fact) ([][]api.Bind, api.Errno) {
	if err := refuseBody(body, l); err != api.OK {
		return nil, err
	}
	w, err := worldOf(asked(body, l))
	if err != api.OK {
		return nil, err
	}
	r := api.Rule{Pred: anyName, Body: slices.Clone(body)}
	names := term.RuleVars(r)
	for _, name := range names {
		r.Head = append(r.Head, api.Arg{Term: api.Term{Var: name}})
	}
	var reads []read
	for i, lit := range r.Body {
		a, k := withoutBlanks(lit.Atom, w.keepOf(lit.Atom))
		r.Body[i].Atom = a
		reads = append(reads, read{k, 0, k.Len()})
	}
	p, err := plan.Make(r, nil, -1)
	if err != api.OK {
		return nil, err
	}
	return binds(names, gather(p, w.table, reads)), api.OK
}

func refuseBody(body []api.Literal, l []api.Fact) api.Errno {
	if err := check.Rule(api.Rule{Pred: anyName, Body: body}); err != api.OK {
		return err
	}
	if err := check.Job(nil, l); err != api.OK {
		return err
	}
	// A rule without a name: no atom and no fact has its name, whatever theirs are.
	_, err := check.Preds(api.Program{Rules: []api.Rule{{Body: body}}}, l)
	return err
}

// asked answers the facts whose names stand in the body: the others need not be kept.
func asked(body []api.Literal, l []api.Fact) []api.Fact {
	names := map[string]struct{}{}
	for _, lit := range body {
		names[lit.Atom.Pred] = struct{}{}
	}
	var out []api.Fact
	for _, f := range l {
		if _, ok := names[f.Pred]; ok {
			out = append(out, f)
		}
	}
	return out
}

// withoutBlanks takes an atom's blanks out of it and out of what it reads: else facts that are the same but for these would be tried one by one, for one solution.
func withoutBlanks(a api.Atom, k *keep) (api.Atom, *keep) {
	out := api.Atom{Pred: a.Pred}
	var columns []int
	for i, t := range a.Args {
		if t.Var != "_" {
			out.Args, columns = append(out.Args, t), append(columns, i)
		}
	}
	if len(columns) == len(a.Args) {
		return a, k
	}
	return out, k.narrow(columns)
}

// binds answers tuples of values, in order, each with the names in its columns.
func binds(names []string, l []api.Fact) [][]api.Bind {
	var tuples [][]api.Value
	for _, f := range l {
		tuples = append(tuples, f.Args)
	}
	var out [][]api.Bind
	for _, t := range value.Tuples(tuples) {
		row := make([]api.Bind, len(t))
		for i, v := range t {
			row[i] = api.Bind{Var: names[i], Val: v}
		}
		out = append(out, row)
	}
	return out
}
