package change

import (
	"maps"

	"pedigree/api"
	"pedigree/group"
	"pedigree/term"
)

// turn is on its way from one model to the next, level by level.
type turn struct {
	*program
	trial      trial
	lost       named              // what was given ahead of the turn, and is not behind it
	given      named              // behind it
	old, now   named              // the models ahead of it, and behind it as far as its levels have been gone through
	gone, come named              // what stands in the old one alone, and in the new one alone; on the level that is under way: on trial
	due        map[int32][]string // the predicates of a level for which something has turned that they hang on, by its number
	doubted    []api.Fact         // on all levels
}

// newTurn takes the base behind the turn, in order.
func newTurn(v *View, base []api.Fact) *turn {
	t := &turn{program: v.program, trial: newTrial(), given: namedOf(base), old: v.model, now: maps.Clone(v.model)}
	t.gone, t.come, t.due = named{}, named{}, map[int32][]string{}
	t.lost = namedOf(without(v.base, base))
	for name := range t.lost {
		t.stir(name)
	}
	for name := range namedOf(without(base, v.base)) {
		t.stir(name)
	}
	return t
}

func (t *turn) run() {
	goThrough := t.level
	for n := range t.top + 1 {
		goThrough(n)
	}
}

// stir says that something has turned for a predicate.
func (t *turn) stir(name string) {
	n := t.pred(name).level
	t.due[n] = append(t.due[n], name)
}

// stirred answers the predicates of a level that may turn: those that are due, and those that ask for them there.
func (t *turn) stirred(n int32) []string {
	var out []string
	stood := map[string]struct{}{}
	for left := t.due[n]; len(left) > 0; left = left[1:] {
		name := left[0]
		if _, again := stood[name]; again {
			continue
		}
		stood[name] = struct{}{}
		out = append(out, name)
		for _, reader := range t.pred(name).readers {
			if t.pred(reader).level == n {
				left = append(left, reader)
			}
		}
	}
	return out
}

// level goes through one: what may have lost its reason is taken out on trial, what still has one is put back, what has become true is added.
func (t *turn) level(n int32) {
	names := t.stirred(n)
	if len(names) == 0 {
		return
	}
	totals := t.totals(names)
	t.takeOut(names, totals)
	t.putIn(names, totals)
	t.settle(names)
	t.trial.end()
}

// total is what a rule with aggregates gives over both models.
type total struct {
	pred          string
	before, after []api.Fact
}

// totals leaves out the errors: Gives refuses nothing that check.Job has taken with all rules and facts.
func (t *turn) totals(names []string) []total {
	var out []total
	for _, name := range names {
		for _, r := range t.by[name] {
			if _, plain := term.Head(r); !plain {
				before, _ := group.Gives(r, t.old.asked(r.Body))
				after, _ := group.Gives(r, t.now.asked(r.Body))
				out = append(out, total{name, before, after})
			}
		}
	}
	return out
}

func (t *turn) takeOut(names []string, totals []total) {
	for _, name := range names {
		t.trial.doubt(t.lost[name])
	}
	for _, x := range totals {
		t.trial.doubt(without(without(x.before, x.after), t.given[x.pred]))
	}
	t.gone.put(names, listed(t.trial.doubted))
	for _, l := range t.search(names, roles{stands: t.old, turned: t.gone, back: t.come, fixed: t.given}) {
		t.trial.doubt(l)
	}
	t.gone.put(names, listed(t.trial.doubted))
}

func (t *turn) putIn(names []string, totals []total) {
	for _, name := range names {
		t.now[name] = without(t.old[name], t.gone[name])
		t.arrive(name, t.given[name])
	}
	for _, x := range totals {
		t.arrive(x.pred, x.after)
	}
	for name, l := range t.search(names, roles{stands: t.now, turned: t.come, back: t.gone, fixed: t.now, wanted: t.gone}) {
		t.arrive(name, l)
	}
}

// arrive lets those of a predicate's facts in order come that are not there.
func (t *turn) arrive(name string, l []api.Fact) {
	l = without(l, t.now[name])
	t.now[name] = merged(t.now[name], l)
	t.come[name] = merged(t.come[name], l)
}

// settle ends the trial: what was doubted and has come again has never gone.
func (t *turn) settle(names []string) {
	for _, name := range names {
		var more []api.Fact
		for _, f := range t.come[name] {
			if !t.trial.putBack(f) {
				more = append(more, f)
			}
		}
		t.come[name] = more
		// A name of which nothing is left is not kept.
		if len(t.now[name]) == 0 {
			delete(t.now, name)
		}
	}
	t.gone.put(names, listed(t.trial.left))
	t.doubted = append(t.doubted, listed(t.trial.doubted)...)
	for _, name := range names {
		if len(t.gone[name])+len(t.come[name]) > 0 {
			t.stirAbove(name)
		}
	}
}

// stirAbove lets a predicate that has turned stir those of higher levels that ask for it; those of its own have been gone through with it.
func (t *turn) stirAbove(name string) {
	p := t.pred(name)
	for _, reader := range p.readers {
		if t.pred(reader).level > p.level {
			t.stir(reader)
		}
	}
}
