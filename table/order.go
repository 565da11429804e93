package table

import (
	"slices"

	"pedigree/api"
	"pedigree/term"
)

// order is a rule whose body is in the order of asking, where the rule is asked by some pattern.
type order struct {
	asked shape // the head's terms at the pattern's b's: they are the goal's values
	head  []api.Term
	steps []*step
}

// step is a literal at its turn.
type step struct {
	api.Literal
	names   []string   // its variables
	pattern string     // its atom's
	known   []api.Term // the atom's terms at the b's
	free    shape      // the atom's terms at the f's; of an equation that gives a variable, the variable
	live    shape      // the variables that are known ahead of it and needed from it on
	merges  bool       // unlike ways may come to it with the same live variables
	been    map[string]struct{}
	hold    func(r *run, s *step, then func())
}

func newOrder(r *rule, pattern string, hasRules func(string) bool) *order {
	head, _ := term.Head(r.Rule) // plain rules have no aggregates
	asked := pick(head.Args, columnsOf(pattern, 'b'))
	out := &order{asked: newShape(asked, numbers(len(asked))), head: head.Args}
	t := newTurn(r, out.asked.gives)
	for s, ok := t.next(); ok; s, ok = t.next() {
		s.hold = holdOf(s, hasRules)
		out.steps = append(out.steps, s)
	}
	out.tellLives()
	return out
}

// holdOf answers the function by which a step's literal is gone through.
func holdOf(s *step, hasRules func(string) bool) func(*run, *step, func()) {
	switch {
	case s.Kind == api.LNot:
		return (*run).absent
	case s.Kind == api.LPos && hasRules(s.Atom.Pred):
		return (*run).ask
	case s.Kind == api.LPos:
		return (*run).look
	case len(s.free.gives) > 0:
		return (*run).set
	}
	return (*run).test
}

// tellLives tells each step which variables are live there.
func (o *order) tellLives() {
	last := map[string]int{} // the step that needs a variable last
	for i, s := range o.steps {
		for _, name := range s.names {
			last[name] = i
		}
	}
	for _, t := range o.head {
		last[t.Var] = len(o.steps) // the empty Var of a value does no harm: no variable is it
	}
	stood := slices.Clone(o.asked.gives)
	for i, s := range o.steps {
		stood = slices.DeleteFunc(stood, func(name string) bool { return last[name] < i })
		s.live = shapeOf(stood)
		s.merges = i > 0 && o.steps[i-1].drops(len(stood))
		if s.merges {
			s.been = map[string]struct{}{}
		}
		stood = append(stood, s.free.gives...)
	}
}

// drops: is there behind the step, where so many variables are live, less known than what told its ways apart?
func (s *step) drops(live int) bool {
	isBlank := func(t api.Term) bool { return t.Var == blank }
	return live < len(s.live.gives)+len(s.free.gives) || s.Kind == api.LPos && slices.ContainsFunc(s.Atom.Args, isBlank)
}

// isNew: are the live variables for the first time what they are? (What is done from here on hangs on them alone: the goal's values are among them, or in the rule itself.)
func (s *step) isNew(v vars) bool {
	if !s.merges {
		return true
	}
	p := pack(v.values(s.live.terms))
	_, ok := s.been[p]
	s.been[p] = struct{}{}
	return !ok
}
