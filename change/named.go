package change

import (
	"maps"
	"slices"
	"strings"

	"pedigree/api"
	"pedigree/value"
)

// named has facts by their names, those of each name in order. A list that stands in one is never written into: another takes its place.
type named map[string][]api.Fact

// namedOf takes facts in order.
func namedOf(l []api.Fact) named {
	out := named{}
	for len(l) > 0 {
		name, n := l[0].Pred, 1
		for n < len(l) && l[n].Pred == name {
			n++
		}
		out[name], l = l[:n:n], l[n:]
	}
	return out
}

// all answers the facts in order, in memory of their own.
func (n named) all() []api.Fact {
	return value.Facts(slices.Concat(slices.Collect(maps.Values(n))...))
}

// asked answers the facts whose names stand in a body.
func (n named) asked(body []api.Literal) []api.Fact {
	var out []api.Fact
	var names []string
	for _, lit := range body {
		if name := lit.Atom.Pred; !slices.Contains(names, name) {
			names = append(names, name)
			out = append(out, n[name]...)
		}
	}
	return out
}

// put takes facts for all that there were of these names.
func (n named) put(names []string, l []api.Fact) {
	for _, name := range names {
		delete(n, name)
	}
	maps.Copy(n, namedOf(value.Facts(l)))
}

// without answers the facts of a list in order that do not stand in another one in order.
func without(l, others []api.Fact) []api.Fact {
	if len(others) == 0 {
		return l
	}
	var out []api.Fact
	for _, f := range l {
		for len(others) > 0 && value.CompareFacts(others[0], f) < 0 {
			others = others[1:]
		}
		if len(others) == 0 || value.CompareFacts(others[0], f) > 0 {
			out = append(out, f)
		}
	}
	return out
}

// merged answers the facts of two lists in order that have none in common, in order.
func merged(a, b []api.Fact) []api.Fact {
	if len(b) == 0 {
		return a
	}
	var out []api.Fact
	for _, f := range a {
		for len(b) > 0 && value.CompareFacts(b[0], f) < 0 {
			out, b = append(out, b[0]), b[1:]
		}
		out = append(out, f)
	}
	return append(out, b...)
}

// textOf answers a fact's own text, as a source says it: no two facts have the same one.
func textOf(f api.Fact) string {
	shown := make([]string, len(f.Args))
	for i, v := range f.Args {
		shown[i], _ = value.Show(v)
	}
	return f.Pred + "(" + strings.Join(shown, ", ") + ")"
}
