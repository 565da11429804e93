package plan

import (
	"pedigree/api"
	"pedigree/term"
)

// turn is how things stand ahead of a step: what is known, and which literals of the body are left.
type turn struct {
	body  []api.Literal
	known known
	left  lits
}

// isAtom: is it the number of an LPos that is left?
func (t *turn) isAtom(i int) bool { return t.left.has(i) && t.body[i].Kind == api.LPos }

// take goes on to the turn behind the step.
func (t *turn) take(s api.Step) {
	t.left &^= 1 << s.Lit
	for _, name := range s.Gives {
		t.known.learn(name)
	}
}

// goThrough answers the steps of all literals that are left; the literal first is taken first, if it is not -1.
func (t *turn) goThrough(first int) []api.Step {
	var out []api.Step
	s, ok := t.next()
	if first != -1 {
		s, ok = t.step(first)
	}
	for ; ok; s, ok = t.next() {
		t.take(s)
		out = append(out, s)
	}
	return out
}

// next answers the step whose turn it is; there is none just if no literal is left.
func (t *turn) next() (api.Step, bool) {
	for i := range t.left.rising() {
		if t.isAtom(i) {
			continue
		}
		if s, ready := t.step(i); ready {
			return s, true
		}
	}
	for i := range t.left.rising() {
		if t.isAtom(i) {
			return t.step(i)
		}
	}
	return api.Step{}, false
}

// step answers the step of a literal that is right at this turn; false, if the literal is not ready.
func (t *turn) step(i int) (api.Step, bool) {
	l := t.body[i]
	s := api.Step{Lit: i, Known: t.known.columns(l.Atom.Args)}
	switch l.Kind {
	case api.LPos:
		s.Kind = kindOfAtom(s.Known, len(l.Atom.Args))
		s.Gives = t.known.lacks(term.AtomVars(l.Atom))
	case api.LNot:
		if len(t.known.lacks(term.AtomVars(l.Atom))) == 0 {
			s.Kind = api.StepAbsent
		}
	default:
		s.Kind, s.Gives = t.known.compare(l)
	}
	return s, s.Kind != api.StepNone
}

func kindOfAtom(m api.Mask, columns int) api.StepKind {
	all := api.Mask(1)<<columns - 1
	switch m {
	case all: // ahead of the next: without columns all of them are known, and none
		return api.StepHas
	case 0:
		return api.StepScan
	}
	return api.StepLook
}

// compare answers the kind of a comparison's step and what it gives; StepNone, if it is not ready.
func (k known) compare(l api.Literal) (api.StepKind, []string) {
	left, right := k.lacks(term.ExprVars(l.Left)), k.lacks(term.ExprVars(l.Right))
	switch {
	case len(left) == 0 && len(right) == 0:
		return api.StepTest, nil
	case l.Rel != api.RelEq:
		return api.StepNone, nil
	case len(right) == 0 && l.Left.Op == api.OpTerm:
		return api.StepSet, left
	case len(left) == 0 && l.Right.Op == api.OpTerm:
		return api.StepSet, right
	}
	return api.StepNone, nil
}
