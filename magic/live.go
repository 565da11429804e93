package magic

import (
	"slices"

	"pedigree/api"
	"pedigree/term"
)

// lives tell which variables of a rule are live, while its body is gone through.
type lives struct {
	stood []string       // those that stand in what is ahead, as they first stand there
	last  map[string]int // where a variable stands last: a literal's number, or the body's length, if the head has it
}

func newLives(r api.Rule) *lives {
	out := &lives{last: map[string]int{}}
	for i, l := range r.Body {
		for _, name := range term.LiteralVars(l) {
			out.last[name] = i
		}
	}
	for _, arg := range r.Head {
		out.last[arg.Term.Var] = len(r.Body) // the empty Var of a value does no harm: no variable is it
	}
	return out
}

// pass lets an atom or a literal be ahead, by its variables.
func (v *lives) pass(names []string) {
	for _, name := range names {
		if !slices.Contains(v.stood, name) {
			v.stood = append(v.stood, name)
		}
	}
}

// at answers the variables that are live at the literal of a number, those ahead of which were passed.
func (v *lives) at(i int) []string {
	var out []string
	for _, name := range v.stood {
		if v.last[name] >= i {
			out = append(out, name)
		}
	}
	return out
}
