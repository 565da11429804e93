package semi

import (
	"pedigree/api"
	"pedigree/join"
)

// span is which facts of its predicate a literal reads, by their numbers: from one on up to the one ahead of another.
type span struct {
	from, to int
}

// sizes are how many facts a predicate has.
type sizes map[string]int

func (s sizes) grow(l []api.Fact) {
	for _, f := range l {
		s[f.Pred]++
	}
}

// work is a run under way.
type work struct {
	world    *join.World
	found    []api.Fact // what has come to the world, as it came: the given facts, and behind them what each round found
	old, now sizes      // without what is new in this round; and with it
	joins    int
}

func newWork() *work {
	world, _ := join.NewWorld()
	return &work{world: world, old: sizes{}, now: sizes{}}
}

// rounds goes on from the given facts till a round finds nothing.
func (w *work) rounds(t turns, given []api.Fact) api.Stats {
	out := api.Stats{Rounds: 1}
	w.take(given)
	part := w.round(w.since(0), t.whole)
	for len(part) > 0 {
		out.Rounds++
		out.New = append(out.New, len(part))
		part = w.round(part, t.asking(part))
	}
	out.Joins = w.joins
	return out
}

// take lets facts come to the world. Add refuses none that check.Job has taken, or that a rule gives which it has taken.
func (w *work) take(l []api.Fact) {
	for _, f := range l {
		if came, _ := w.world.Add(f); came {
			w.found = append(w.found, f)
		}
	}
}

// since answers what was found behind the first n facts, without the room behind it, in which the next round's are put.
func (w *work) since(n int) []api.Fact {
	return w.found[n:len(w.found):len(w.found)]
}

// round is handed the part of what was found that is new, and answers the part that comes by these turns.
func (w *work) round(part []api.Fact, l []turn) []api.Fact {
	n := len(w.found)
	w.now.grow(part)
	for _, t := range l {
		given := w.try(t)
		w.joins += len(given)
		w.take(given)
	}
	w.old.grow(part)
	return w.since(n)
}

// try answers what the joins of a turn give, join by join.
func (w *work) try(t turn) []api.Fact {
	body := t.plan.Rule.Body
	from, to := make([]int, len(body)), make([]int, len(body))
	reads := w.spans(t)
	for i, lit := range body {
		s := reads(i)
		if lit.Kind == api.LPos && s == (span{}) {
			return nil
		}
		from[i], to[i] = s.from, s.to
	}
	given, _ := w.world.Run(t.plan, from, to)
	return given
}

// spans answers what tells the span of each literal. Where one reads what is new, those ahead of it read what is old, and those behind it all: so a join is tried in the turn of its first new fact, and in no other.
func (w *work) spans(t turn) func(i int) span {
	return func(i int) span {
		lit := t.plan.Rule.Body[i]
		switch name := lit.Atom.Pred; {
		case lit.Kind != api.LPos:
			return span{}
		case i < t.fresh:
			return span{0, w.old[name]}
		case i == t.fresh:
			return span{w.old[name], w.now[name]}
		default:
			return span{0, w.now[name]}
		}
	}
}
