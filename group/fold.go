package group

import (
	"slices"

	"pedigree/api"
	"pedigree/term"
	"pedigree/value"
)

// fold works out what one argument of a head comes to over the solutions of a group. The zero Value stands for nothing.
type fold struct {
	plain bool
	start api.Value
	read  func(binds []api.Bind) api.Value
	next  func(soFar, v api.Value) api.Value
}

// foldsOf answers the folds of a head's arguments. All solutions have the body's variables in the same places, so each is looked for once.
func foldsOf(r api.Rule) []fold {
	names := term.RuleVars(api.Rule{Body: r.Body})
	var out []fold
	for _, a := range r.Head {
		f := foldOf(a.Agg)
		f.read = reader(a.Term, slices.Index(names, a.Term.Var))
		out = append(out, f)
	}
	return out
}

// reader answers what reads a term's value under a solution; at: the variable's place there. (Of a count nobody looks at it.)
func reader(t api.Term, at int) func([]api.Bind) api.Value {
	if t.Var == "" {
		return func([]api.Bind) api.Value { return t.Val }
	}
	return func(binds []api.Bind) api.Value { return binds[at].Val }
}

func foldOf(a api.Agg) fold {
	zero := api.Value{Kind: api.KNum}
	switch a {
	case api.AggCount:
		return fold{start: zero, next: func(soFar, _ api.Value) api.Value {
			soFar.Num++
			return soFar
		}}
	case api.AggSum:
		// Where one is no number Arith gives the zero Value, and of that the zero Value again: nothing stays nothing.
		return fold{start: zero, next: func(soFar, v api.Value) api.Value {
			sum, _ := value.Arith(api.OpAdd, soFar, v)
			return sum
		}}
	case api.AggMin:
		return fold{next: func(soFar, v api.Value) api.Value {
			if isNothing(soFar) || value.Compare(v, soFar) < 0 {
				return v
			}
			return soFar
		}}
	case api.AggMax:
		return fold{next: func(soFar, v api.Value) api.Value {
			if isNothing(soFar) || value.Compare(v, soFar) > 0 {
				return v
			}
			return soFar
		}}
	}
	return fold{plain: true, next: func(_, v api.Value) api.Value { return v }}
}

func isNothing(v api.Value) bool { return v == api.Value{} }
