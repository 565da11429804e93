package table

import (
	"slices"

	"pedigree/api"
	"pedigree/value"
)

// work is the answering of a query.
type work struct {
	rules  map[string][]*rule // by their predicate
	orders map[api.Adorned][]*order
	given  book
	goals  map[key]*goal
	vars   vars // there is one rule at a time that is gone through
	agenda []func()
}

func newWork(rules []api.Rule, l []api.Fact) *work {
	out := &work{rules: map[string][]*rule{}, orders: map[api.Adorned][]*order{}, given: newBook(l), goals: map[key]*goal{}, vars: vars{}}
	for _, r := range rules {
		out.rules[r.Pred] = append(out.rules[r.Pred], newRule(r))
	}
	return out
}

func (w *work) hasRules(pred string) bool { return len(w.rules[pred]) > 0 }

// ordersOf are the rules of a predicate, as they are asked by a pattern.
func (w *work) ordersOf(pair api.Adorned) []*order {
	out, ok := w.orders[pair]
	if !ok {
		for _, r := range w.rules[pair.Pred] {
			out = append(out, newOrder(r, pair.Pattern, w.hasRules))
		}
		w.orders[pair] = out
	}
	return out
}

// goalOf answers the goal of a key. One that is new has the given facts for answers, and its rules are on the agenda.
func (w *work) goalOf(k key) *goal {
	out, ok := w.goals[k]
	if ok {
		return out
	}
	out = &goal{key: k, packed: map[string]struct{}{}}
	w.goals[k] = out
	for _, tuple := range w.given.find(k.Adorned, k.known()) {
		out.put(tuple)
	}
	w.agenda = append(w.agenda, func() { w.open(out) })
	return out
}

// open goes through the rules of a goal's predicate.
func (w *work) open(g *goal) {
	for _, o := range w.ordersOf(g.Adorned) {
		r := &run{work: w, order: o, goal: g}
		w.vars.with(o.asked, g.known(), func() { r.from(0) })
	}
}

// rouse puts a waiter on the agenda, if it is not there.
func (w *work) rouse(x *waiter) {
	if !x.due {
		x.due = true
		w.agenda = append(w.agenda, x.wake)
	}
}

// finish does what is on the agenda, until nothing is left. (No goal is gone into from within another: so goals may hang on one another in chains of any length.)
func (w *work) finish() {
	for len(w.agenda) > 0 {
		last := len(w.agenda) - 1
		next := w.agenda[last]
		w.agenda = w.agenda[:last]
		next()
	}
}

// tables are the goals, in their order, as they are told.
func (w *work) tables() []api.Table {
	var goals []*goal
	for _, g := range w.goals {
		goals = append(goals, g)
	}
	slices.SortFunc(goals, func(a, b *goal) int { return compareKeys(&a.key, &b.key) })
	var out []api.Table
	for _, g := range goals {
		out = append(out, api.Table{Goal: g.atom(), Answers: value.Tuples(g.answers)})
	}
	return out
}
