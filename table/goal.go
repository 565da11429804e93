package table

import (
	"cmp"
	"strconv"
	"strings"

	"pedigree/api"
	"pedigree/value"
)

// key is what is asked: a predicate with a pattern, and a value for each b of it, from the array's beginning on.
type key struct {
	api.Adorned
	values [api.MaxWide]api.Value
}

// keyOf answers what an atom asks by a pattern, where the terms at its b's have values.
func keyOf(a api.Atom, pattern string, v vars) key {
	out := key{Adorned: api.Adorned{Pred: a.Pred, Pattern: pattern}}
	n := 0
	for i, t := range a.Args {
		if pattern[i] == 'b' {
			out.values[n], _ = v.of(t)
			n++
		}
	}
	return out
}

// known are the key's values, as many as its pattern has b's.
func (k *key) known() []api.Value { return k.values[:strings.Count(k.Pattern, "b")] }

// compareKeys is the order of goals.
func compareKeys(a, b *key) int {
	return cmp.Or(strings.Compare(a.Pred, b.Pred), strings.Compare(a.Pattern, b.Pattern), value.CompareTuples(a.known(), b.known()))
}

// atom answers the goal as an atom.
func (k *key) atom() api.Atom {
	out := api.Atom{Pred: k.Pred}
	known, free := k.known(), 0
	for _, c := range k.Pattern {
		var t api.Term
		if c == 'b' {
			t.Val, known = known[0], known[1:]
		} else {
			t.Var = "V" + strconv.Itoa(free)
			free++
		}
		out.Args = append(out.Args, t)
	}
	return out
}

// goal is something that is asked, with its table so far, and what waits for more of it.
type goal struct {
	key
	answers [][]api.Value
	packed  map[string]struct{} // the answers
	waiters []*waiter
}

// put adds an answer; false: the goal has it.
func (g *goal) put(tuple []api.Value) bool {
	p := pack(tuple)
	if _, ok := g.packed[p]; ok {
		return false
	}
	g.packed[p] = struct{}{}
	g.answers = append(g.answers, tuple)
	return true
}

// waiter is where a rule has come to an atom that asks a goal. From there it goes on with each answer of the goal just once, whenever the answer comes.
type waiter struct {
	*step
	vars vars
	kept []api.Value // of the step's live variables
	goal *goal
	next int // the number of the first answer that it has not had
	then func()
	due  bool // it is on the agenda
}

// wake goes on with all answers that have come, and with those that come meanwhile.
func (x *waiter) wake() {
	x.vars.with(x.live, x.kept, func() {
		for ; x.next < len(x.goal.answers); x.next++ {
			x.vars.with(x.free, x.goal.answers[x.next], x.then)
		}
	})
	x.due = false
}
