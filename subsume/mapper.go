package subsume

import (
	"slices"

	"pedigree/api"
	"pedigree/term"
)

// blank is the Var of a blank.
const blank = "_"

// landing is what a literal's landing gives the variables, by their numbers: numbers of terms, 0 where it gives none. They are small, since landings are many: the limits of a rule of use leave it some 4000 terms.
type landing [api.MaxVars]uint16

// mapper keeps what a mapping of one rule to another can be.
type mapper struct {
	names   []string            // the variables of the one
	terms   []api.Term          // terms of the other that variables may be given, by their numbers; that of the number 0 is none
	numbers map[api.Term]uint16 // those of the terms
	lands   [][]landing         // of each literal of the one its unlike landings, in the order of the other's literals
}

// firstMapping answers, for two rules of use, what the first mapping of a to b gives a's variables; false: a does not subsume b. (P20.3)
func firstMapping(a, b api.Rule) ([]api.Pair, bool) {
	if !headsFit(a, b) {
		return nil, false
	}
	if slices.ContainsFunc(a.Head, isAggregate) || slices.ContainsFunc(b.Head, isAggregate) {
		return renaming(a, b)
	}
	m := &mapper{names: term.RuleVars(a), terms: make([]api.Term, 1), numbers: map[api.Term]uint16{}}
	if !m.land(a, b) {
		return nil, false
	}
	o, ok := m.first()
	if !ok {
		return nil, false
	}
	return m.pairs(o), true
}

// headsFit tells at once, of most rules, that neither a mapping nor other names make a's head that of b.
func headsFit(a, b api.Rule) bool {
	return a.Pred == b.Pred && slices.EqualFunc(a.Head, b.Head, func(x, y api.Arg) bool {
		return x.Term.Var != "" || x.Term == y.Term
	})
}

func isAggregate(x api.Arg) bool { return x.Agg != api.AggNone }

// renaming answers what the variables of a are called in b; false: the rules differ in more.
func renaming(a, b api.Rule) ([]api.Pair, bool) {
	if !term.Alike(a, b) {
		return nil, false
	}
	var out []api.Pair
	names := term.RuleVars(b)
	for i, name := range term.RuleVars(a) {
		out = append(out, api.Pair{Var: name, Term: api.Term{Var: names[i]}})
	}
	return out, true
}

// land finds the landings of a's literals, each by itself and beside the heads; false: the heads do not become one, or a literal has none.
func (m *mapper) land(a, b api.Rule) bool {
	var heads landing
	for i, x := range a.Head {
		if !m.meet(&heads, x.Term, b.Head[i].Term) {
			return false
		}
	}
	for _, x := range a.Body {
		var some []landing
		for _, y := range b.Body {
			// One that was there gives no other mapping, and its row of numbers is not the least.
			if l := heads; m.landsOn(&l, x, y) && !slices.Contains(some, l) {
				some = append(some, l)
			}
		}
		if len(some) == 0 {
			return false
		}
		m.lands = append(m.lands, some)
	}
	return true
}

// landsOn: does the literal x land on y, by what the landing gives and what it can give beside that?
func (m *mapper) landsOn(l *landing, x, y api.Literal) bool {
	if x.Kind != y.Kind {
		return false
	}
	switch x.Kind {
	case api.LNot:
		if !slices.EqualFunc(x.Atom.Args, y.Atom.Args, bothBlankOrNone) {
			return false
		}
		fallthrough
	case api.LPos:
		return x.Atom.Pred == y.Atom.Pred && slices.EqualFunc(x.Atom.Args, y.Atom.Args, func(s, t api.Term) bool {
			return s.Var == blank || m.meet(l, s, t)
		})
	case api.LCmp:
		return x.Rel == y.Rel && m.become(l, x.Left, y.Left) && m.become(l, x.Right, y.Right)
	}
	return false
}

func bothBlankOrNone(s, t api.Term) bool { return (s.Var == blank) == (t.Var == blank) }

// become: can the expression x be y?
func (m *mapper) become(l *landing, x, y api.Expr) bool {
	return x.Op == y.Op && m.meet(l, x.Term, y.Term) && slices.EqualFunc(x.Kids, y.Kids, func(s, t api.Expr) bool {
		return m.become(l, s, t)
	})
}

// meet: can the term s, which is no blank, be t? A variable that is given nothing yet is given t.
func (m *mapper) meet(l *landing, s, t api.Term) bool {
	if s.Var == "" {
		return s == t
	}
	if t.Var == blank {
		return false
	}
	v, n := slices.Index(m.names, s.Var), m.number(t)
	if l[v] == 0 {
		l[v] = n
	}
	return l[v] == n
}

func (m *mapper) number(t api.Term) uint16 {
	n, ok := m.numbers[t]
	if !ok {
		n = uint16(len(m.terms))
		m.numbers[t] = n
		m.terms = append(m.terms, t)
	}
	return n
}
