package par

import (
	"pedigree/api"
	"pedigree/group"
	"pedigree/join"
)

// sizes are how many facts some predicates have.
type sizes map[string]int

func sizesOf(l []api.Fact) sizes {
	out := sizes{}
	for _, f := range l {
		out[f.Pred]++
	}
	return out
}

// work is a call's work under way.
type work struct {
	stop  *Stop
	crew  *crew
	world *join.World           // all that is there
	asked map[string]struct{}   // the names that stand in bodies
	found []api.Fact            // the facts of these names, as they came: the workers need know no others
	named map[string][]api.Fact // the same by their names
}

func begin(rules []api.Rule, given []api.Fact, workers int, s *Stop) *work {
	world, _ := join.NewWorld()
	w := &work{stop: s, crew: hire(workers), world: world, asked: map[string]struct{}{}, named: map[string][]api.Fact{}}
	for _, r := range rules {
		for _, lit := range r.Body {
			w.asked[lit.Atom.Pred] = struct{}{}
		}
	}
	w.take(given)
	return w
}

// take lets facts come to what is there, and answers those that were not. Add refuses none that check.Job has taken, or that a rule gives which it has taken.
func (w *work) take(l []api.Fact) []api.Fact {
	var out []api.Fact
	for _, f := range l {
		if came, _ := w.world.Add(f); !came {
			continue
		}
		out = append(out, f)
		if _, ok := w.asked[f.Pred]; ok {
			w.found = append(w.found, f)
			w.named[f.Pred] = append(w.named[f.Pred], f)
		}
	}
	return out
}

// aggregate lets come what a level's rules with aggregates give. They look at lower levels alone, so none sees what another one gives.
func (w *work) aggregate(rules []api.Rule) {
	for _, r := range rules {
		given, _ := group.Gives(r, w.seen(r))
		w.take(given)
	}
}

// seen answers the facts whose names stand in a rule's body.
func (w *work) seen(r api.Rule) []api.Fact {
	var out []api.Fact
	stood := map[string]struct{}{}
	for _, lit := range r.Body {
		name := lit.Atom.Pred
		if _, again := stood[name]; !again {
			stood[name] = struct{}{}
			out = append(out, w.named[name]...)
		}
	}
	return out
}

// rounds lets come what rules of one level come to, till a round finds nothing; false: it is stopped.
func (w *work) rounds(rules []api.Rule) (api.Stats, bool) {
	var out api.Stats
	var fresh sizes
	all := turnsOf(rules)
	for l := all.whole; ; l = all.asking(fresh) {
		if !w.stop.ask() {
			return api.Stats{}, false
		}
		came, joins := w.round(l, fresh)
		out.Rounds++
		out.Joins += joins
		if len(came) == 0 {
			return out, true
		}
		out.New = append(out.New, len(came))
		fresh = sizesOf(came)
	}
}

// round is handed turns, and how many facts of each predicate are new; it answers the facts that come, and how many joins were tried.
func (w *work) round(l []turn, fresh sizes) ([]api.Fact, int) {
	var jobs []job
	for _, t := range l {
		for _, j := range w.jobs(t, fresh) {
			j.number = len(jobs)
			jobs = append(jobs, j)
		}
	}
	var came []api.Fact
	joins := 0
	for _, x := range w.crew.try(jobs, w.found) {
		joins += x.joins
		came = append(came, w.take(x.facts)...)
	}
	return came, joins
}

// jobs answers a turn's joins. Where a literal reads what is new, those ahead of it read what is old, and those behind it all: so a join is tried in the turn of its first new fact, and in no other.
func (w *work) jobs(t turn, fresh sizes) []job {
	var reads []span
	for i, lit := range t.plan.Rule.Body {
		var s span
		if lit.Kind == api.LPos {
			s.to = w.world.Size(lit.Atom.Pred)
			old := s.to - fresh[lit.Atom.Pred]
			switch {
			case i < t.fresh:
				s.to = old
			case i == t.fresh:
				s.from = old
			}
			if s.from == s.to {
				return nil
			}
		}
		reads = append(reads, s)
	}
	return t.jobs(reads, len(w.crew.tasks))
}
