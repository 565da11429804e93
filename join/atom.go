package join

import "pedigree/api"

// atom is a literal's atom, with what it reads.
type atom struct {
	read
	*slots
	mask  api.Mask
	known []place // the columns of the mask
	given []place // those whose variables get their values here
	again []place // those whose variables got theirs in a column ahead
}

func (s *slots) atom(a api.Atom, step api.Step, r read) atom {
	out := atom{read: r, slots: s, mask: step.Known}
	first := map[string]struct{}{}
	for i, t := range a.Args {
		if t.Var == "_" {
			continue
		}
		p := place{i, s.of(t)}
		_, stood := first[t.Var]
		switch {
		case step.Known>>i&1 == 1:
			out.known = append(out.known, p)
		case stood:
			out.again = append(out.again, p)
		default:
			out.given = append(out.given, p)
			first[t.Var] = struct{}{}
		}
	}
	return out
}

// key answers a row of what is known.
func (a *atom) key() api.Row {
	var out api.Row
	for _, p := range a.known {
		out[p.column] = p.sym
	}
	return out
}

// isKnown: is a row what is known?
func (a *atom) isKnown(row api.Row) bool {
	for _, p := range a.known {
		if p.sym != row[p.column] {
			return false
		}
	}
	return true
}

// take gives the variables what they are in a row; false: one would be two values.
func (a *atom) take(row api.Row) bool {
	for _, p := range a.given {
		a.setNumber(p.slot, row[p.column])
	}
	for _, p := range a.again {
		if p.sym != row[p.column] {
			return false
		}
	}
	return true
}

// some: is there a fact, whatever its number is, that is what is known?
func (a *atom) some() bool {
	if len(a.known) == a.Arity() {
		return a.Has(a.key())
	}
	n, _ := a.Count(a.mask, a.key())
	return n > 0
}
