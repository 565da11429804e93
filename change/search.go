package change

import (
	"strconv"

	"pedigree/api"
	"pedigree/semi"
	"pedigree/term"
)

// role of facts in a search: the first letter of the name that their predicate has there. So no name is too long, and none is one of the program's.
type role string

const (
	stands  role = "s" // it is in the model over which the joins are
	turned  role = "t" // it has gone from the model, or come into it
	back    role = "b" // it has turned the other way
	crossed role = "c" // it has turned back, as a not sees it
	wanted  role = "w" // it has gone, and is asked for by itself
	fixed   role = "f" // it does not turn
	found   role = "g" // a rule gives it by a join in which something has turned
)

// roles are the facts that have them.
type roles map[role]named

// search finds what turns on a level because other facts have turned: what goes, or what comes. It does so by rules of its own, each led by a literal that has turned.
type search struct {
	*program
	roles
	grows  map[string]struct{} // the predicates of which facts may turn
	handed map[string]int      // how many facts are handed in, by their names
	rules  []api.Rule
	facts  []api.Fact
	leads  int // facts that have turned and lead a rule
}

// search answers what turns of these predicates. Its rules are of one level, as the program's are: nothing that stands under a not, or of which values are made, turns meanwhile.
func (t *turn) search(names []string, in roles) named {
	s := &search{program: t.program, roles: in, grows: map[string]struct{}{}, handed: map[string]int{}}
	for _, name := range names {
		s.grows[name] = struct{}{}
	}
	for _, name := range names {
		s.takeAll(s.by[name])
	}
	if s.leads == 0 {
		return nil
	}
	all, _, _ := semi.Run(s.rules, s.facts)
	told, out := namedOf(all), named{}
	for _, name := range names {
		if len(s.by[name]) > 0 {
			out[name] = renamed(told[s.name(turned, name)], name)
		}
	}
	return out
}

func renamed(l []api.Fact, name string) []api.Fact {
	var out []api.Fact
	for _, f := range l {
		out = append(out, api.Fact{Pred: name, Args: f.Args})
	}
	return out
}

// name answers the one that a predicate has in a role.
func (s *search) name(as role, pred string) string {
	return string(as) + strconv.Itoa(s.pred(pred).number)
}

// as answers an atom in a role.
func (s *search) as(r role, a api.Atom) api.Atom {
	return api.Atom{Pred: s.name(r, a.Pred), Args: a.Args}
}

// ask does so, and hands in the facts that have the role.
func (s *search) ask(r role, a api.Atom) api.Atom {
	out := s.as(r, a)
	if _, again := s.handed[out.Pred]; !again {
		s.hand(out.Pred, s.roles[r][a.Pred])
	}
	return out
}

func (s *search) hand(name string, l []api.Fact) {
	s.handed[name] = len(l)
	s.facts = append(s.facts, renamed(l, name)...)
}

// takeAll takes the rules of a predicate that have no aggregates.
func (s *search) takeAll(rules []api.Rule) {
	for i, r := range rules {
		if head, plain := term.Head(r); plain {
			s.take(r, head)
		}
		if i == 0 {
			s.letTurn(r.Pred, len(r.Head))
		}
	}
}

// letTurn lets what is found turn, unless it is fixed, and what has turned stand.
func (s *search) letTurn(pred string, arity int) {
	a := api.Atom{Pred: pred}
	for i := range arity {
		a.Args = append(a.Args, api.Term{Var: "V" + strconv.Itoa(i)})
	}
	s.add(s.as(turned, a), literal(api.LPos, s.as(found, a)), literal(api.LNot, s.ask(fixed, a)))
	s.add(s.as(stands, a), literal(api.LPos, s.as(turned, a)))
}

func literal(kind api.LitKind, a api.Atom) api.Literal { return api.Literal{Kind: kind, Atom: a} }

func (s *search) add(head api.Atom, body ...api.Literal) {
	r := api.Rule{Pred: head.Pred, Body: body}
	for _, x := range head.Args {
		r.Head = append(r.Head, api.Arg{Term: x})
	}
	s.rules = append(s.rules, r)
}
