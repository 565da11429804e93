package change_test

import (
	"slices"
	"testing"

	"pedigree/api"
	"pedigree/change"
	"pedigree/check"
	"pedigree/depend"
	"pedigree/group"
	"pedigree/model"
	"pedigree/term"
	"pedigree/value"
)

// What stands here is written along the chapter, word by word, with lists alone; models and groups are those of the layers below.

// slow is a view that works everything out anew.
type slow struct {
	p                    api.Program
	base, model, doubted []api.Fact
}

func newSlow(t *testing.T, p api.Program, l []api.Fact) *slow {
	t.Helper()
	return &slow{p: p, base: value.Facts(l), model: mustModel(t, p, l)}
}

func mustModel(t *testing.T, p api.Program, l []api.Fact) []api.Fact {
	t.Helper()
	m, err := model.Model(p, l)
	if err != api.OK {
		t.Fatalf("Model(%s, %s): %d", showProgram(p), show(l), err)
	}
	return m
}

func isIn(f api.Fact, l []api.Fact) bool {
	return slices.ContainsFunc(l, func(x api.Fact) bool { return value.CompareFacts(x, f) == 0 })
}

// less is the facts of a list that do not stand in another one.
func less(l, others []api.Fact) []api.Fact {
	return slices.DeleteFunc(slices.Clone(l), func(f api.Fact) bool { return isIn(f, others) })
}

// turn: P24.4.
func (s *slow) turn(t *testing.T, add, remove []api.Fact) (api.Diff, api.Errno) {
	t.Helper()
	base := value.Facts(append(less(s.base, remove), add...))
	if err := check.Job(s.p.Rules, base); err != api.OK {
		return api.Diff{}, err
	}
	m := mustModel(t, s.p, base)
	out := api.Diff{Added: less(m, s.model), Removed: less(s.model, m)}
	s.doubted = s.doubts(base, m)
	s.base, s.model = base, m
	return out, api.OK
}

// slowJoin is a fact for each LPos of a rule's body such that the body holds, the assignment, and what it gives.
type slowJoin struct {
	rule  api.Rule
	facts []api.Fact
	binds []api.Bind
	gives api.Fact
}

// replaced is an atom whose variables are their values.
func replaced(a api.Atom, l []api.Bind) api.Atom {
	var pairs []api.Pair
	for _, b := range l {
		pairs = append(pairs, api.Pair{Var: b.Var, Term: api.Term{Val: b.Val}})
	}
	return term.Apply(pairs, a)
}

// holds: does a literal hold over the facts, by DOC.md's words? (The binds assign all its variables.)
func holds(lit api.Literal, l []api.Fact, binds []api.Bind) bool {
	if lit.Kind == api.LCmp {
		a, ok := term.Eval(lit.Left, binds)
		b, too := term.Eval(lit.Right, binds)
		return ok && too && value.Holds(lit.Rel, a, b)
	}
	a := replaced(lit.Atom, binds)
	return slices.ContainsFunc(l, func(f api.Fact) bool {
		_, ok := term.Match(a, f)
		return ok
	}) == (lit.Kind == api.LPos)
}

// equated adds what the equations of a body give, over and over.
func equated(body []api.Literal, binds []api.Bind) []api.Bind {
	for range body {
		for _, lit := range body {
			for _, side := range [][2]api.Expr{{lit.Left, lit.Right}, {lit.Right, lit.Left}} {
				name := side[0].Term.Var
				if lit.Kind != api.LCmp || lit.Rel != api.RelEq || name == "" || slices.ContainsFunc(binds, func(b api.Bind) bool { return b.Var == name }) {
					continue
				}
				if val, ok := term.Eval(side[1], binds); ok {
					binds = append(binds, api.Bind{Var: name, Val: val})
				}
			}
		}
	}
	return binds
}

// slowJoins goes through all facts for each LPos, one within the other.
func slowJoins(r api.Rule, l []api.Fact) []slowJoin {
	var out []slowJoin
	var choose func(left []api.Literal, facts []api.Fact, binds []api.Bind)
	choose = func(left []api.Literal, facts []api.Fact, binds []api.Bind) {
		if len(left) == 0 {
			binds = equated(r.Body, binds)
			if slices.ContainsFunc(r.Body, func(lit api.Literal) bool { return !holds(lit, l, binds) }) {
				return
			}
			head, _ := term.Head(r)
			f := api.Fact{Pred: r.Pred}
			for _, x := range replaced(head, binds).Args {
				f.Args = append(f.Args, x.Val)
			}
			out = append(out, slowJoin{r, facts, binds, f})
			return
		}
		if left[0].Kind != api.LPos {
			choose(left[1:], facts, binds)
			return
		}
		a := replaced(left[0].Atom, binds)
		for _, f := range l {
			if more, ok := term.Match(a, f); ok {
				choose(left[1:], append(slices.Clone(facts), f), append(slices.Clone(binds), more...))
			}
		}
	}
	choose(r.Body, nil, nil)
	return out
}

func isPlain(r api.Rule) bool {
	return !slices.ContainsFunc(r.Head, func(a api.Arg) bool { return a.Agg != api.AggNone })
}

// doubts: the chapter's word 'Doubted', of a turn to a base and a model.
func (s *slow) doubts(base, m []api.Fact) []api.Fact {
	list, _, _ := depend.Levels(s.p)
	levels := map[string]int32{}
	for _, l := range list {
		levels[l.Pred] = l.N
	}
	var joins []slowJoin
	var lost []api.Fact
	for _, r := range s.p.Rules {
		if isPlain(r) {
			joins = append(joins, slowJoins(r, s.model)...)
			continue
		}
		before, _ := group.Gives(r, s.model)
		after, _ := group.Gives(r, m)
		lost = append(lost, less(before, after)...)
	}
	var out []api.Fact
	breaks := func(x slowJoin) bool {
		own := levels[x.gives.Pred]
		return slices.ContainsFunc(x.facts, func(f api.Fact) bool {
			return levels[f.Pred] == own && isIn(f, out) || levels[f.Pred] < own && !isIn(f, m)
		}) || slices.ContainsFunc(x.rule.Body, func(l api.Literal) bool {
			return l.Kind == api.LNot && !holds(l, m, x.binds)
		})
	}
	for n := range int32(len(list) + 1) {
		for grown := true; grown; {
			grown = false
			for _, f := range s.model {
				if levels[f.Pred] != n || isIn(f, base) || isIn(f, out) {
					continue
				}
				if isIn(f, s.base) || isIn(f, lost) || slices.ContainsFunc(joins, func(x slowJoin) bool {
					return value.CompareFacts(x.gives, f) == 0 && breaks(x)
				}) {
					out, grown = append(out, f), true
				}
			}
		}
	}
	return value.Facts(out)
}

func (s *slow) whole() string {
	return "base " + show(s.base) + "; model " + show(s.model) + "; doubted " + show(s.doubted)
}

func (s *slow) clone() *slow {
	out := *s
	return &out
}

// both turns a view and a slow one, holds them against one another, and tells what the turn answered.
func both(t *testing.T, x *change.View, s *slow, add, remove []api.Fact) (api.Diff, api.Errno) {
	t.Helper()
	ahead := s.whole()
	want, code := s.turn(t, add, remove)
	got, err := x.Turn(add, remove)
	if err != code || show(got.Added) != show(want.Added) || show(got.Removed) != show(want.Removed) || whole(x) != s.whole() {
		t.Fatalf("%s with %s, add %s, remove %s:\n %v, %d, %s\nwant %v, %d, %s", showProgram(s.p), ahead, show(add), show(remove), got, err, whole(x), want, code, s.whole())
	}
	return want, code
}
