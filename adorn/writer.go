package adorn

import (
	"strconv"

	"pedigree/api"
	"pedigree/term"
)

// writer goes through the rules, pair by pair, and meets what they ask.
type writer struct {
	met
	rules   map[string][]*rule // by their predicate, in their order
	written []api.Rule
}

func newWriter(rules []api.Rule) *writer {
	w := &writer{met: newMet(), rules: map[string][]*rule{}}
	for _, r := range rules {
		w.rules[r.Pred] = append(w.rules[r.Pred], newRule(r))
	}
	return w
}

// ask answers the atom as it is asked: by the name of its pair, which is met, if its predicate has rules.
func (w *writer) ask(a api.Atom, known names) api.Atom {
	if len(w.rules[a.Pred]) == 0 {
		return a
	}
	pair := api.Adorned{Pred: a.Pred, Pattern: known.pattern(a)}
	w.meet(pair)
	a.Pred = Name(pair)
	return a
}

// writeAll writes the rules of the pairs that were met, and of those that are met on the way.
func (w *writer) writeAll() api.Errno {
	for pair, ok := w.next(); ok; pair, ok = w.next() {
		last := comeIn(pair)
		// A pair's name alone can be too long, and this rule has it: the pair's other rules need not be looked at.
		if term.CheckRule(last) != api.OK {
			return api.ErrSize
		}
		for _, r := range w.rules[pair.Pred] {
			w.written = append(w.written, w.adorned(r, pair))
		}
		w.written = append(w.written, last)
	}
	return api.OK
}

// adorned answers a rule of the pair's predicate as the pair's own.
func (w *writer) adorned(r *rule, pair api.Adorned) api.Rule {
	own, _ := term.ApplyRule(nil, r.Rule) // without pairs it is a copy
	out := api.Rule{Pred: Name(pair), Head: own.Head, Body: make([]api.Literal, 0, len(own.Body))}
	t := r.begin(pair.Pattern)
	for i, ok := t.take(); ok; i, ok = t.take() {
		l := own.Body[i]
		if l.Kind == api.LPos {
			l.Atom = w.ask(l.Atom, t.known)
		}
		t.known.learn(t.vars[i])
		out.Body = append(out.Body, l)
	}
	return out
}

// comeIn answers the rule by which given facts of the pair's predicate are the pair's too.
func comeIn(pair api.Adorned) api.Rule {
	out := api.Rule{Pred: Name(pair)}
	given := api.Atom{Pred: pair.Pred}
	for i := range len(pair.Pattern) {
		column := api.Term{Var: "V" + strconv.Itoa(i)}
		out.Head = append(out.Head, api.Arg{Term: column})
		given.Args = append(given.Args, column)
	}
	out.Body = []api.Literal{{Kind: api.LPos, Atom: given}}
	return out
}
