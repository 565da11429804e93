package naive

import (
	"strings"

	"pedigree/api"
	"pedigree/value"
)

// ranks holds which rank a fact has, by its text.
type ranks map[string]int

// unranked gives the facts that have no rank yet this one, and answers them, each once.
func (r ranks) unranked(rank int, l []api.Fact) []api.Fact {
	var out []api.Fact
	for _, f := range l {
		text := textOf(f)
		if _, ranked := r[text]; !ranked {
			r[text] = rank
			out = append(out, f)
		}
	}
	return out
}

func (r ranks) tell(l []api.Fact) []api.Ranked {
	var out []api.Ranked
	for _, f := range l {
		out = append(out, api.Ranked{Fact: f, Rank: r[textOf(f)]})
	}
	return out
}

// textOf answers a text that no other fact has: a value's own text has a comma or a bracket between quotes alone.
func textOf(f api.Fact) string {
	var shown []string
	for _, v := range f.Args {
		s, _ := value.Show(v)
		shown = append(shown, s)
	}
	return f.Pred + "(" + strings.Join(shown, ", ") + ")"
}
