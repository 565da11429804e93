package plan

import (
	"pedigree/api"
	"pedigree/term"
)

// known has the variables whose values are known.
type known map[string]struct{}

// knowing answers false, if one of the names is no variable, or stands there twice.
func knowing(names []string) (known, bool) {
	k := known{}
	for _, name := range names {
		if k.has(name) || !isVariable(name) {
			return nil, false
		}
		k.learn(name)
	}
	return k, true
}

func isVariable(name string) bool {
	return name != "_" && term.CheckTerm(api.Term{Var: name}) == api.OK
}

func (k known) learn(name string) { k[name] = struct{}{} }

func (k known) has(name string) bool {
	_, ok := k[name]
	return ok
}

// lacks answers those of the variables that are not known, in their order.
func (k known) lacks(vars []string) []string {
	var out []string
	for _, name := range vars {
		if !k.has(name) {
			out = append(out, name)
		}
	}
	return out
}

// columns answers which terms of an atom are known: a blank is no variable that anything could have learnt.
func (k known) columns(args []api.Term) api.Mask {
	var out api.Mask
	column := api.Mask(1)
	for _, t := range args {
		if t.Var == "" || k.has(t.Var) {
			out |= column
		}
		column <<= 1
	}
	return out
}
