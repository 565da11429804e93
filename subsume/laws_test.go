package subsume_test

import (
	"fmt"
	"slices"
	"testing"

	"pedigree/api"
	"pedigree/check"
	"pedigree/group"
	"pedigree/model"
	"pedigree/naive"
	"pedigree/print"
	"pedigree/subsume"
	"pedigree/term"
)

func showFacts(l []api.Fact) string {
	if s, err := print.Facts(l); err == api.OK {
		return s
	}
	return fmt.Sprintf("%v", l)
}

// facts are of predicates that are given, and of some for which rules are.
func (d *dice) facts(most int) []api.Fact {
	var out []api.Fact
	for range d.below(most + 1) {
		p := d.pred(given())
		if d.below(3) == 0 {
			p = d.pred(ruled())
		}
		f := api.Fact{Pred: p.Name}
		for range p.Arity {
			f.Args = append(f.Args, d.value())
		}
		out = append(out, f)
	}
	return out
}

// gives is what a rule gives, with aggregates or without.
func gives(t *testing.T, r api.Rule, l []api.Fact) []api.Fact {
	t.Helper()
	work := naive.Gives
	if hasAggregate(r) {
		work = group.Gives
	}
	out, err := work(r, l)
	if err != api.OK {
		t.Fatalf("Gives(%s, %s): %d", showRules(r), showFacts(l), err)
	}
	return out
}

func mustPrune(t *testing.T, rules []api.Rule, q api.Atom) []api.Rule {
	t.Helper()
	out, err := subsume.Prune(rules, q)
	if err != api.OK {
		t.Fatalf("Prune(%s, %s): %d", showRules(rules...), showAtom(q), err)
	}
	return out
}

func areFacts(some, all []api.Fact) bool {
	for _, f := range some {
		if !slices.ContainsFunc(all, func(x api.Fact) bool { return x.Pred == f.Pred && slices.Equal(x.Args, f.Args) }) {
			return false
		}
	}
	return true
}

// P20.5: a rule gives just what its Tidy gives, and nothing if there is none; Tidy of what is tidy is itself, and of use.
func TestTidyGivesTheSame(t *testing.T) {
	d := dice(11)
	some, without, turned, aggregates := 0, 0, 0, 0
	for range 6000 {
		r, l := d.variant(d.rule(d.pred(ruled()), 4)), d.facts(24)
		want := gives(t, r, l)
		neat, ok := subsume.Tidy(r)
		if !ok {
			if len(want) > 0 {
				t.Fatalf("Tidy(%s): there is none, but it gives over %s: %s", showRules(r), showFacts(l), showFacts(want))
			}
			without++
			continue
		}
		if got := gives(t, neat, l); showFacts(got) != showFacts(want) {
			t.Fatalf("%s and its Tidy %s give, over %s: %s and %s", showRules(r), showRules(neat), showFacts(l), showFacts(want), showFacts(got))
		}
		again, ok := subsume.Tidy(neat)
		if !ok || showRules(again) != showRules(neat) || check.Rule(neat) != api.OK {
			t.Fatalf("Tidy(%s): %s, %v", showRules(neat), showRules(again), ok)
		}
		if len(want) > 0 {
			some++
			if len(neat.Body) < len(r.Body) {
				turned++
			}
			if hasAggregate(r) {
				aggregates++
			}
		}
	}
	if some < 1500 || without < 200 || turned < 400 || aggregates < 50 {
		t.Errorf("%d gave something, of which %d had become less and %d had aggregates; of %d there was none", some, turned, aggregates, without)
	}
}

// P20.5: where a subsumes b, a gives all that b gives; the mapping makes a's head b's.
func TestSubsumedGivesNoMore(t *testing.T) {
	d := dice(12)
	some, more := 0, 0
	for range 12000 {
		a := d.rule(d.pred(ruled()), 4)
		b, l := d.variant(a), d.facts(24)
		s, ok := subsume.Subsumes(a, b)
		if !ok {
			continue
		}
		all, part := gives(t, a, l), gives(t, b, l)
		if !areFacts(part, all) {
			t.Fatalf("%s subsumes %s, but they give, over %s: %s and %s", showRules(a), showRules(b), showFacts(l), showFacts(all), showFacts(part))
		}
		made, err := term.ApplyRule(s, a)
		if err != api.OK || !slices.Equal(made.Head, b.Head) {
			t.Fatalf("%s subsumes %s by %s, which makes %s", showRules(a), showRules(b), showPairs(s), showRules(made))
		}
		if len(part) > 0 {
			some++
		}
		if len(part) < len(all) {
			more++
		}
	}
	if some < 1000 || more < 200 {
		t.Errorf("%d gave something, %d subsumed what gave less", some, more)
	}
}

// P20.5: to subsume is reflexive and transitive.
func TestOrderOfRules(t *testing.T) {
	d := dice(13)
	chains, broken := 0, 0
	for range 8000 {
		a := d.rule(d.pred(ruled()), 4)
		b := d.variant(a)
		c := d.variant(b)
		for _, r := range []api.Rule{a, b, c} {
			if _, ok := subsume.Subsumes(r, r); !ok {
				t.Fatalf("%s does not subsume itself", showRules(r))
			}
		}
		_, first := subsume.Subsumes(a, b)
		_, second := subsume.Subsumes(b, c)
		_, both := subsume.Subsumes(a, c)
		if first && second && !both {
			t.Fatalf("%s subsumes %s, that %s, but the first the last not", showRules(a), showRules(b), showRules(c))
		}
		if first && second {
			chains++
		} else if !both {
			broken++
		}
	}
	if chains < 1500 || broken < 1000 {
		t.Errorf("%d chains, %d that were none", chains, broken)
	}
}

// P20.5: what Prune leaves is pruned; each rule that it takes away in step 2 is subsumed by one that is left behind that step.
func TestPrunedIsPruned(t *testing.T) {
	d := dice(14)
	away := 0
	for range 3000 {
		rules, q := d.rules(9, 3), d.atom(d.pred(ruled()))
		left := mustPrune(t, rules, q)
		if again := mustPrune(t, left, q); showRules(again...) != showRules(left...) {
			t.Fatalf("Prune(%s, %s):\n%sand then:\n%s", showRules(rules...), showAtom(q), showRules(left...), showRules(again...))
		}
		// for the query of a rule that comes to all predicates nothing goes in step 3
		all := api.Rule{Pred: "all"}
		for _, p := range ruled() {
			all.Body = append(all.Body, api.Literal{Kind: api.LPos, Atom: api.Atom{Pred: p.Name, Args: slices.Repeat([]api.Term{v("_")}, p.Arity)}})
		}
		second := mustPrune(t, append(slices.Clone(rules), all), atom("all"))
		for _, r := range rules {
			neat, ok := subsume.Tidy(r)
			if !ok {
				continue
			}
			if !slices.ContainsFunc(second, func(x api.Rule) bool { return showRules(x) == showRules(neat) }) {
				away++
			}
			if !slices.ContainsFunc(second, func(x api.Rule) bool { _, ok := subsume.Subsumes(x, neat); return ok }) {
				t.Fatalf("Prune(%s): nothing that is left subsumes %s", showRules(rules...), showRules(neat))
			}
		}
	}
	if away < 2000 {
		t.Errorf("%d were taken away alone", away)
	}
}

// P20.5: over whatever facts for which the program has a model, the pruned rules have one, with the same answers to the query.
func TestSameAnswers(t *testing.T) {
	d := dice(15)
	answered, pruned, without := 0, 0, 0
	for range 6000 {
		rules, q, l := d.rules(9, 3), d.atom(d.pred(ruled())), d.facts(20)
		left := mustPrune(t, rules, q)
		m, err := model.Model(api.Program{Rules: rules}, l)
		if err != api.OK {
			without++
			continue
		}
		less, err := model.Model(api.Program{Rules: left}, l)
		if err != api.OK {
			t.Fatalf("Prune(%s, %s) has no model, %d:\n%s", showRules(rules...), showAtom(q), err, showRules(left...))
		}
		want, got := model.Answers(q, m), model.Answers(q, less)
		if !slices.EqualFunc(want, got, func(a, b []api.Value) bool { return slices.Equal(a, b) }) {
			t.Fatalf("Prune(%s, %s), over %s:\n%s%v; want %v", showRules(rules...), showAtom(q), showFacts(l), showRules(left...), got, want)
		}
		if len(want) > 0 && len(left) > 0 {
			answered++
			if len(left) < len(rules) {
				pruned++
			}
		}
	}
	if answered < 1500 || pruned < 1200 || without < 50 {
		t.Errorf("%d had answers, of which %d were pruned; %d had no model", answered, pruned, without)
	}
}

// cells are where the texts of all cells of lists stand, spare room too: two lists that share memory have one in common.
type cells map[*string]int

func (c cells) exprs(l []api.Expr) {
	l = l[:cap(l)]
	for i := range l {
		c[&l[i].Term.Var]++
		c.exprs(l[i].Kids)
	}
}

func (c cells) terms(l []api.Term) {
	l = l[:cap(l)]
	for i := range l {
		c[&l[i].Var]++
	}
}

func (c cells) pairs(l []api.Pair) {
	l = l[:cap(l)]
	for i := range l {
		c[&l[i].Var]++
	}
}

func (c cells) rules(l []api.Rule) {
	l = l[:cap(l)]
	for i := range l {
		c[&l[i].Pred]++
		args := l[i].Head[:cap(l[i].Head)]
		for j := range args {
			c[&args[j].Term.Var]++
		}
		body := l[i].Body[:cap(l[i].Body)]
		for j := range body {
			c[&body[j].Atom.Pred]++
			c.terms(body[j].Atom.Args)
			c.exprs(body[j].Left.Kids)
			c.exprs(body[j].Right.Kids)
		}
	}
}

// isOwn: does no cell stand in two lists?
func (c cells) isOwn() bool {
	for _, n := range c {
		if n > 1 {
			return false
		}
	}
	return true
}

// dirty answers a copy of a list with room behind it that must stay as it is.
func dirty[T any](l []T, spare T) []T {
	out := append(make([]T, 0, len(l)+3), l...)
	room := out[len(out):cap(out)]
	for i := range room {
		room[i] = spare
	}
	return out
}

func dirtyExpr(e api.Expr) api.Expr {
	e.Kids = dirty(e.Kids, ex(v("Spare")))
	for i := range e.Kids {
		e.Kids[i] = dirtyExpr(e.Kids[i])
	}
	return e
}

func dirtyRules(l []api.Rule) []api.Rule {
	out := dirty(l, api.Rule{Pred: "spare"})
	for i, r := range out {
		out[i].Head = dirty(r.Head, api.Arg{Term: v("Spare")})
		out[i].Body = dirty(r.Body, pos("spare"))
		for j, lit := range out[i].Body {
			lit.Atom.Args = dirty(lit.Atom.Args, v("Spare"))
			lit.Left, lit.Right = dirtyExpr(lit.Left), dirtyExpr(lit.Right)
			out[i].Body[j] = lit
		}
	}
	return out
}

func wholeExpr(e api.Expr) string {
	out := fmt.Sprint(e.Kids[:cap(e.Kids)])
	for _, kid := range e.Kids {
		out += wholeExpr(kid)
	}
	return out
}

// whole writes rules with their spare room.
func whole(l []api.Rule) string {
	out := fmt.Sprint(l[:cap(l)])
	for _, r := range l {
		out += "\n" + fmt.Sprint(r.Head[:cap(r.Head)]) + fmt.Sprint(r.Body[:cap(r.Body)])
		for _, lit := range r.Body {
			out += fmt.Sprint(lit.Atom.Args[:cap(lit.Atom.Args)]) + wholeExpr(lit.Left) + wholeExpr(lit.Right)
		}
	}
	return out
}

// R4: what is handed in stays as it was, its spare room too; no list of an answer shares memory with another one, of another answer or of what was handed in.
func TestMemoryOfItsOwn(t *testing.T) {
	d := dice(16)
	kids, pairs, left := 0, 0, 0
	for range 800 {
		rules, q := dirtyRules(d.rules(6, 4)), d.atom(d.pred(ruled()))
		q.Args = dirty(q.Args, v("Spare"))
		before := whole(rules) + fmt.Sprint(q.Args[:cap(q.Args)])
		all := cells{}
		all.rules(rules)
		all.terms(q.Args)
		for range 2 {
			out := mustPrune(t, rules, q)
			all.rules(out)
			left += len(out)
			for _, r := range rules {
				neat, ok := subsume.Tidy(r)
				if !ok {
					continue
				}
				all.rules([]api.Rule{neat})
				for _, l := range neat.Body {
					kids += len(l.Left.Kids) + len(l.Right.Kids)
				}
				for _, other := range rules {
					s, _ := subsume.Subsumes(r, other)
					all.pairs(s)
					pairs += len(s)
				}
			}
		}
		if !all.isOwn() {
			t.Fatalf("%s, %s: two lists share memory", showRules(rules...), showAtom(q))
		}
		if whole(rules)+fmt.Sprint(q.Args[:cap(q.Args)]) != before {
			t.Fatalf("%s, %s: what was handed in is turned", showRules(rules...), showAtom(q))
		}
	}
	if kids < 300 || pairs < 2000 || left < 500 {
		t.Errorf("%d kids, %d pairs, %d rules alone", kids, pairs, left)
	}
}

// R5: the same call twice.
func TestTwice(t *testing.T) {
	d := dice(17)
	for range 500 {
		rules, q := d.rules(8, 5), d.atom(d.pred(ruled()))
		want := showRules(mustPrune(t, rules, q)...)
		s, ok := subsume.Subsumes(rules[0], rules[len(rules)-1])
		for range 3 {
			if got := showRules(mustPrune(t, rules, q)...); got != want {
				t.Fatalf("Prune(%s, %s):\n%s\nand then:\n%s", showRules(rules...), showAtom(q), want, got)
			}
			if again, fine := subsume.Subsumes(rules[0], rules[len(rules)-1]); fine != ok || showPairs(again) != showPairs(s) {
				t.Fatalf("Subsumes(%s, %s): %s and then %s", showRules(rules[0]), showRules(rules[len(rules)-1]), showPairs(s), showPairs(again))
			}
		}
	}
}
