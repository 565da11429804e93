package join

import (
	"slices"

	"pedigree/api"
	"pedigree/symbol"
	"pedigree/value"
)

// step of a run: for each way in which its literal holds under what the variables are by then, it lets the step behind it run.
type step interface{ run() }

// gather answers what the choices give that lie in what the literals read. The plan is right.
func gather(p api.Plan, table *symbol.Table, reads []read) []api.Fact {
	for i, l := range p.Rule.Body {
		// Ahead of all steps: those ahead of it may have very many choices.
		if l.Kind == api.LPos && reads[i].isEmpty() {
			return nil
		}
	}
	s := &slots{table, map[string]*slot{}}
	end := &tell{pred: p.Rule.Pred}
	for _, arg := range p.Rule.Head {
		end.head = append(end.head, s.of(arg.Term))
	}
	var first step = end
	for _, x := range slices.Backward(p.Steps) {
		first = s.step(x, p.Rule.Body[x.Lit], reads[x.Lit], first)
	}
	first.run()
	return end.out
}

// step makes a plan's step ready to be run, with the one behind it.
func (s *slots) step(x api.Step, l api.Literal, r read, next step) step {
	switch x.Kind {
	case api.StepScan:
		return &scan{s.atom(l.Atom, x, r), next}
	case api.StepLook:
		return &look{s.atom(l.Atom, x, r), next}
	case api.StepHas:
		return &has{s.atom(l.Atom, x, r), next}
	case api.StepAbsent:
		return &absent{s.atom(l.Atom, x, r), next}
	case api.StepTest:
		return &test{l.Rel, s.side(l.Left), s.side(l.Right), next}
	}
	to := s.of(api.Term{Var: x.Gives[0]})
	if l.Left.Term.Var == x.Gives[0] {
		return &set{s, to, s.side(l.Right), next}
	}
	return &set{s, to, s.side(l.Left), next}
}

// scan goes through all facts of the span.
type scan struct {
	atom
	next step
}

func (s *scan) run() {
	for _, row := range s.Range(s.from, s.to) {
		if s.take(row) {
			s.next.run()
		}
	}
}

// look goes through the facts of the span that are what is known.
type look struct {
	atom
	next step
}

func (s *look) run() {
	if s.isShort() {
		s.runAll()
		return
	}
	numbers, _ := s.Look(s.mask, s.key())
	i, _ := slices.BinarySearch(numbers, s.from)
	for ; i < len(numbers) && numbers[i] < s.to; i++ {
		if row, _ := s.At(numbers[i]); s.take(row) {
			s.next.run()
		}
	}
}

// isShort: has the span fewer facts than are, in all, what is known?
func (s *look) isShort() bool {
	if s.isWhole() {
		return false
	}
	n, _ := s.Count(s.mask, s.key())
	return s.to-s.from < n
}

// runAll asks each fact of the span whether it is what is known.
func (s *look) runAll() {
	for _, row := range s.Range(s.from, s.to) {
		if s.isKnown(row) && s.take(row) {
			s.next.run()
		}
	}
}

// has asks for the one fact that is what is known.
type has struct {
	atom
	next step
}

func (s *has) run() {
	if s.some() && (s.isWhole() || s.isInSpan()) {
		s.next.run()
	}
}

// isInSpan asks for the fact's number, for which the book needs an index of all columns.
func (s *has) isInSpan() bool {
	numbers, _ := s.Look(s.mask, s.key())
	return len(numbers) == 1 && s.from <= numbers[0] && numbers[0] < s.to
}

// absent lets through what no fact is.
type absent struct {
	atom
	next step
}

func (s *absent) run() {
	if !s.some() {
		s.next.run()
	}
}

// test holds two values against each other.
type test struct {
	rel         api.Rel
	left, right side
	next        step
}

func (s *test) run() {
	// A side without a value is the zero Value, which compares with nothing.
	a, _ := s.left.value()
	b, _ := s.right.value()
	if value.Holds(s.rel, a, b) {
		s.next.run()
	}
}

// set gives a variable what the other side of its equation is.
type set struct {
	*slots
	to   *slot
	from side
	next step
}

func (s *set) run() {
	if v, ok := s.from.value(); ok {
		s.set(s.to, v)
		s.next.run()
	}
}

// tell keeps what the choice gives: the step behind the last one.
type tell struct {
	pred string
	head []*slot
	out  []api.Fact
}

func (s *tell) run() {
	args := make([]api.Value, len(s.head))
	for i, from := range s.head {
		args[i] = from.val
	}
	s.out = append(s.out, api.Fact{Pred: s.pred, Args: args})
}
