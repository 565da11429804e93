package adorn

import (
	"pedigree/api"
	"pedigree/term"
)

// blank is the Var of a blank.
const blank = "_"

// names are those of the variables that are known.
type names map[string]struct{}

func namesOf(l []string) names {
	out := names{}
	out.learn(l)
	return out
}

func (k names) learn(l []string) {
	for _, name := range l {
		k[name] = struct{}{}
	}
}

func (k names) has(name string) bool {
	_, ok := k[name]
	return ok
}

func (k names) hasAll(l []string) bool {
	for _, name := range l {
		if !k.has(name) {
			return false
		}
	}
	return true
}

// pattern answers the pattern of any atom: whatever is handed in as known, a blank is not.
func (k names) pattern(a api.Atom) string {
	out := make([]byte, len(a.Args))
	for i, t := range a.Args {
		out[i] = 'f'
		if t.Var == "" || t.Var != blank && k.has(t.Var) {
			out[i] = 'b'
		}
	}
	return string(out)
}

// gives: does the equation of a lone variable with another expression tell what it is?
func (k names) gives(lone, other api.Expr) bool {
	name := lone.Term.Var // an operation has none
	return name != "" && !k.has(name) && k.hasAll(term.ExprVars(other))
}
