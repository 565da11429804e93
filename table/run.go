package table

import (
	"pedigree/api"
	"pedigree/value"
)

// run is a rule that is gone through for a goal.
type run struct {
	*work
	*order
	goal *goal
}

// from goes on with the step of a number. Each step is handed what is to be done behind it, for each way in which its literal holds.
func (r *run) from(i int) {
	if i == len(r.steps) {
		r.tell()
		return
	}
	if s := r.steps[i]; s.isNew(r.vars) {
		s.hold(r, s, func() { r.from(i + 1) })
	}
}

// tell puts the head into the goal's table, and rouses those who wait for it.
func (r *run) tell() {
	if r.goal.put(r.vars.values(r.head)) {
		for _, x := range r.goal.waiters {
			r.rouse(x)
		}
	}
}

// ask waits at an atom whose predicate has rules, and asks for it.
func (r *run) ask(s *step, then func()) {
	g := r.goalOf(keyOf(s.Atom, s.pattern, r.vars))
	x := &waiter{step: s, vars: r.vars, kept: r.vars.values(s.live.terms), goal: g, then: then}
	g.waiters = append(g.waiters, x)
	if len(g.answers) > 0 {
		r.rouse(x)
	}
}

// look goes on with each given fact that an atom can be.
func (r *run) look(s *step, then func()) {
	for _, tuple := range r.found(s) {
		r.vars.with(s.free, tuple, then)
	}
}

func (r *run) absent(s *step, then func()) {
	if len(r.found(s)) == 0 {
		then()
	}
}

// found are the given facts' tuples that have the known terms of an atom. (Of a not, too: its predicate has no rules, since the rules are plain.)
func (r *run) found(s *step) [][]api.Value {
	return r.given.find(api.Adorned{Pred: s.Atom.Pred, Pattern: s.pattern}, r.vars.values(s.known))
}

func (r *run) test(s *step, then func()) {
	left, ok := r.vars.eval(s.Left, s.names)
	if !ok {
		return
	}
	if right, ok := r.vars.eval(s.Right, s.names); ok && value.Holds(s.Rel, left, right) {
		then()
	}
}

// set gives the variable on an equation's left what is on the right.
func (r *run) set(s *step, then func()) {
	if right, ok := r.vars.eval(s.Right, s.names); ok {
		r.vars.with(s.free, []api.Value{right}, then)
	}
}
