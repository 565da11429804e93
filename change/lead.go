package change

import (
	"strconv"

	"pedigree/api"
)

// none is the number of no literal.
const none = -1

// take makes of a rule those that are led by a literal that may have turned, and the one that is led by what is wanted of its head.
func (s *search) take(r api.Rule, head api.Atom) {
	for i, lit := range r.Body {
		switch {
		case lit.Kind == api.LPos && s.mayTurn(lit.Atom.Pred):
			s.lead(s.ask(turned, lit.Atom), r, head, i)
		case lit.Kind == api.LNot && len(s.roles[back][lit.Atom.Pred]) > 0:
			s.lead(s.cross(lit.Atom), r, head, i)
		}
	}
	if len(s.roles[wanted][r.Pred]) > 0 {
		s.lead(s.ask(wanted, head), r, head, none)
	}
}

func (s *search) mayTurn(pred string) bool {
	_, grows := s.grows[pred]
	return grows || len(s.roles[turned][pred]) > 0
}

// lead puts an atom ahead of a rule's body, in the place of one of its literals or of none: the first one of a body is asked for first, and of what has turned there is mostly little.
func (s *search) lead(first api.Atom, r api.Rule, head api.Atom, at int) {
	s.leads += s.handed[first.Pred]
	body := []api.Literal{literal(api.LPos, first)}
	for i, lit := range r.Body {
		if i == at {
			continue
		}
		if lit.Kind != api.LCmp {
			lit.Atom = s.ask(stands, lit.Atom)
		}
		body = append(body, lit)
	}
	// Only what is wanted makes a body longer: without it more is tried, and what is found holds too.
	if len(body) > api.MaxBody {
		body = body[1:]
	}
	s.add(s.as(found, head), body...)
}

// cross answers an atom that holds where the not of this one has turned, which its blanks have no part in.
func (s *search) cross(a api.Atom) api.Atom {
	out := api.Atom{Pred: s.name(crossed, a.Pred)}
	var columns []int
	for i, x := range a.Args {
		if x.Var != "_" {
			out.Pred += "_" + strconv.Itoa(i)
			out.Args, columns = append(out.Args, x), append(columns, i)
		}
	}
	if _, again := s.handed[out.Pred]; !again {
		s.hand(out.Pred, s.crossing(a.Pred, columns))
	}
	return out
}

// crossing answers what has turned back, these columns alone, where no other fact is the same in these: with one, the not holds neither ahead of the turn nor behind it.
func (s *search) crossing(pred string, columns []int) []api.Fact {
	others := map[string]struct{}{}
	for _, f := range s.roles[stands][pred] {
		others[textOf(pick(f, columns))] = struct{}{}
	}
	var out []api.Fact
	for _, f := range s.roles[back][pred] {
		f = pick(f, columns)
		if _, other := others[textOf(f)]; !other {
			out = append(out, f)
		}
	}
	return out
}

func pick(f api.Fact, columns []int) api.Fact {
	out := api.Fact{Pred: f.Pred}
	for _, c := range columns {
		out.Args = append(out.Args, f.Args[c])
	}
	return out
}
