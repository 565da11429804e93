package check

import (
	"pedigree/api"
	"pedigree/term"
)

// worklist keeps things that wait, in their order.
type worklist[T any] struct{ waiting []T }

func (w *worklist[T]) add(thing T) { w.waiting = append(w.waiting, thing) }

// round goes once through the list, lets go of the things that are done, and tells whether there was one.
func (w *worklist[T]) round(done func(T) bool) bool {
	left := w.waiting[:0]
	for _, thing := range w.waiting {
		if !done(thing) {
			left = append(left, thing)
		}
	}
	some := len(left) < len(w.waiting)
	w.waiting = left
	return some
}

type variable struct {
	name  string
	found bool
}

// side of an equation: the variable that it is, if it is a lone one, and its variables from the first on that was missing when it was last looked at.
type side struct {
	lone *variable
	rest []*variable
}

type equation struct{ left, right side }

// finder keeps one variable for each name, so that an equation that waits for it need not look it up on each way through the body.
type finder struct {
	variables map[string]*variable
	found     []string
}

// Limited: the variables that a body limits, as they are found. (P7.2)
func Limited(body []api.Literal) []string {
	f := &finder{variables: map[string]*variable{}}
	for _, name := range atomVars(body) {
		f.find(f.variable(name))
	}
	var equations worklist[*equation]
	for _, l := range body {
		if l.Kind == api.LCmp && l.Rel == api.RelEq {
			equations.add(&equation{f.side(l.Left), f.side(l.Right)})
		}
	}
	for equations.round(f.solve) {
	}
	return f.found
}

func (f *finder) variable(name string) *variable {
	v := f.variables[name]
	if v == nil {
		v = &variable{name: name}
		f.variables[name] = v
	}
	return v
}

func (f *finder) find(v *variable) {
	if !v.found {
		v.found = true
		f.found = append(f.found, v.name)
	}
}

func (f *finder) side(e api.Expr) side {
	var s side
	for _, name := range term.ExprVars(e) {
		s.rest = append(s.rest, f.variable(name))
	}
	if e.Op == api.OpTerm && len(e.Kids) == 0 && len(s.rest) == 1 {
		s.lone = s.rest[0]
	}
	return s
}

// solve finds what the equation gives; false: nothing so far.
func (f *finder) solve(e *equation) bool {
	return f.give(e.left.lone, &e.right) || f.give(e.right.lone, &e.left)
}

func (f *finder) give(lone *variable, other *side) bool {
	if lone == nil || lone.found || !other.isKnown() {
		return false
	}
	f.find(lone)
	return true
}

// isKnown forgets the variables that have been found, so that what waits for the last of many is not gone through each time.
func (s *side) isKnown() bool {
	for len(s.rest) > 0 && s.rest[0].found {
		s.rest = s.rest[1:]
	}
	return len(s.rest) == 0
}
