package store

import (
	"strings"

	"pedigree/api"
	"pedigree/value"
)

// turns are facts that have been touched, by their own texts, each with how it was touched last.
type turns map[string]touched

type touched struct {
	fact api.Fact
	in   bool
}

// put takes a fact of its own for the one that is handed in.
func (t turns) put(f api.Fact, in bool) {
	t[textOf(f)] = touched{value.Facts([]api.Fact{f})[0], in}
}

func (t turns) commit(c api.Commit) {
	for _, f := range c.Added {
		t.put(f, true)
	}
	for _, f := range c.Removed {
		t.put(f, false)
	}
}

// sides are the facts that were touched in, and those that were touched out, each in order.
func (t turns) sides() (in, out []api.Fact) {
	for _, x := range t {
		if x.in {
			in = append(in, x.fact)
		} else {
			out = append(out, x.fact)
		}
	}
	return value.Facts(in), value.Facts(out)
}

// over is what facts in order come to by the turns.
func (t turns) over(l []api.Fact) []api.Fact {
	in, out := t.sides()
	l = without(l, out)
	return with(l, without(in, l))
}

// textOf answers a fact's own text, as a source says it: no two facts have the same one.
func textOf(f api.Fact) string {
	shown := make([]string, len(f.Args))
	for i, v := range f.Args {
		shown[i], _ = value.Show(v)
	}
	return f.Pred + "(" + strings.Join(shown, ", ") + ")"
}
