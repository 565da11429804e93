package table

import (
	"pedigree/api"
	"pedigree/term"
)

// blank is the Var of a blank.
const blank = "_"

// vars say what the variables are of the rule that is gone through.
type vars map[string]api.Value

// of answers a term's value; false: it is a variable that has none.
func (v vars) of(t api.Term) (api.Value, bool) {
	if t.Var == "" {
		return t.Val, true
	}
	known, ok := v[t.Var]
	return known, ok
}

// values are those of terms that all have one.
func (v vars) values(terms []api.Term) []api.Value {
	out := make([]api.Value, len(terms))
	for i, t := range terms {
		out[i], _ = v.of(t)
	}
	return out
}

// eval answers an expression's value, of whose variables the names are all; false: it has none.
func (v vars) eval(e api.Expr, names []string) (api.Value, bool) {
	var binds []api.Bind
	for _, name := range names {
		if known, ok := v[name]; ok {
			binds = append(binds, api.Bind{Var: name, Val: known})
		}
	}
	return term.Eval(e, binds)
}

// shape is terms that are to be values of a tuple.
type shape struct {
	terms  []api.Term
	places []int    // of the terms' values, in the tuple
	gives  []string // the terms' variables that nothing has given a value ahead
}

// newShape answers the shape of terms, none of whose variables is known ahead; a blank is any value, so it can be left out.
func newShape(terms []api.Term, places []int) shape {
	out := shape{gives: term.AtomVars(api.Atom{Args: terms})}
	for i, t := range terms {
		if t.Var != blank {
			out.terms, out.places = append(out.terms, t), append(out.places, places[i])
		}
	}
	return out
}

// shapeOf answers the shape of variables, one behind the other.
func shapeOf(names []string) shape {
	var terms []api.Term
	for _, name := range names {
		terms = append(terms, api.Term{Var: name})
	}
	return newShape(terms, numbers(len(names)))
}

// with does what is to be done, if the terms can be the tuple's values, while they are.
func (v vars) with(s shape, tuple []api.Value, then func()) {
	if v.take(s, tuple) {
		then()
	}
	for _, name := range s.gives {
		delete(v, name)
	}
}

// take lets the terms be the tuple's values; false: they can't be.
func (v vars) take(s shape, tuple []api.Value) bool {
	for i, t := range s.terms {
		is := tuple[s.places[i]]
		known, ok := v.of(t)
		if !ok {
			v[t.Var] = is
		} else if known != is {
			return false
		}
	}
	return true
}
