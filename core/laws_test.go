package core_test

import (
	"fmt"
	"slices"
	"testing"

	"pedigree/api"
	"pedigree/core"
	"pedigree/semi"
	"pedigree/subsume"
)

func mustFollow(t *testing.T, rules []api.Rule, r api.Rule) bool {
	t.Helper()
	ok, err := core.Follows(rules, r)
	if err != api.OK {
		t.Fatalf("Follows(%s, %s): %d", showRules(rules...), showRules(r), err)
	}
	return ok
}

func mustBeLeast(t *testing.T, rules []api.Rule) []api.Rule {
	t.Helper()
	out, err := core.Least(rules)
	if err != api.OK {
		t.Fatalf("Least(%s): %d", showRules(rules...), err)
	}
	return out
}

// run is what rules come to, as a text.
func run(t *testing.T, rules []api.Rule, l []api.Fact) string {
	t.Helper()
	all, _, err := semi.Run(rules, l)
	if err != api.OK {
		t.Fatalf("Run(%s, %s): %d", showRules(rules...), showFacts(l...), err)
	}
	return showFacts(all...)
}

// facts are of predicates that are given, and of some for which rules are.
func (d *dice) facts(most int) []api.Fact {
	var out []api.Fact
	for range d.below(most + 1) {
		p := d.pred(given())
		if d.below(3) == 0 {
			p = d.pred(ruled())
		}
		f := api.Fact{Pred: p.Name}
		for range p.Arity {
			f.Args = append(f.Args, d.value())
		}
		out = append(out, f)
	}
	return out
}

// P21.5: where a rule follows, the rules answer the same facts with it, whatever is given; where it does not, its own body, frozen so, tells them apart.
func TestWhatFollowsGivesNothing(t *testing.T) {
	d := dice(11)
	yes, no := 0, 0
	for range 1500 {
		rules := d.rules(5, 4)
		r := d.variant(rules[d.below(len(rules))])
		if long, ok := d.unfolded(r, rules); ok {
			r = long
		}
		if d.below(3) > 0 {
			rules = slices.Delete(rules, 0, 1)
		}
		more := append(slices.Clone(rules), r)
		if !mustFollow(t, rules, r) {
			no++
			body, _ := slowFreeze(r, more...)
			if run(t, rules, body) == run(t, more, body) {
				t.Fatalf("%s does not follow from %s, but its body does not tell", showRules(r), showRules(rules...))
			}
			continue
		}
		yes++
		for range 3 {
			if l := d.facts(16); run(t, rules, l) != run(t, more, l) {
				t.Fatalf("%s follows from %s, but not over %s", showRules(r), showRules(rules...), showFacts(l...))
			}
		}
	}
	if yes < 500 || no < 300 {
		t.Errorf("%d followed, %d did not", yes, no)
	}
}

// P21.5: Least's rules and those that were handed in are Same; those that are Same answer the same facts, whatever is given.
func TestSameGivesTheSame(t *testing.T) {
	d := dice(12)
	less := 0
	for range 500 {
		rules := d.rules(7, 4)
		least := mustBeLeast(t, rules)
		for _, c := range [][2][]api.Rule{{rules, least}, {least, rules}} {
			if ok, err := core.Same(c[0], c[1]); !ok || err != api.OK {
				t.Fatalf("Same(%s, %s): %v, %d", showRules(c[0]...), showRules(c[1]...), ok, err)
			}
		}
		if showRules(rules...) != showRules(least...) {
			less++
		}
		for range 3 {
			if l := d.facts(16); run(t, rules, l) != run(t, least, l) {
				t.Fatalf("Least(%s) gives other facts over %s:\n%s", showRules(rules...), showFacts(l...), showRules(least...))
			}
		}
	}
	if less < 200 {
		t.Errorf("%d became less alone", less)
	}
}

// P21.6: a rule follows from rules among which it stands, and from more rules; one that is subsumed follows.
func TestMoreRules(t *testing.T) {
	d := dice(13)
	subsumed, more := 0, 0
	for range 1200 {
		rules := d.rules(5, 4)
		for _, r := range rules {
			if !mustFollow(t, rules, r) {
				t.Fatalf("%s does not follow from %s", showRules(r), showRules(rules...))
			}
		}
		a := rules[d.below(len(rules))]
		b := d.variant(a)
		if _, ok := subsume.Subsumes(a, b); ok {
			subsumed++
			if !mustFollow(t, []api.Rule{a}, b) {
				t.Fatalf("%s subsumes %s, which does not follow", showRules(a), showRules(b))
			}
		}
		some := rules[:d.below(len(rules)+1)]
		if mustFollow(t, some, b) {
			more++
			if !mustFollow(t, rules, b) {
				t.Fatalf("%s follows from %s, but not from more: %s", showRules(b), showRules(some...), showRules(rules...))
			}
		}
	}
	if subsumed < 400 || more < 200 {
		t.Errorf("%d were subsumed, %d followed from some", subsumed, more)
	}
}

// P21.6: what follows from rules that all follow from others follows from those.
func TestFollowsIsTransitive(t *testing.T) {
	d := dice(14)
	chains, broken := 0, 0
	for range 2000 {
		a := d.rules(4, 3)
		var b []api.Rule
		for range 3 {
			r := d.variant(a[d.below(len(a))])
			if long, ok := d.unfolded(r, a); ok {
				r = long
			}
			if mustFollow(t, a, r) {
				b = append(b, r)
			}
		}
		if len(b) == 0 {
			continue
		}
		c := d.variant(b[d.below(len(b))])
		switch {
		case mustFollow(t, b, c) && !mustFollow(t, a, c):
			t.Fatalf("%s follows from %s, those from %s, but it does not", showRules(c), showRules(b...), showRules(a...))
		case mustFollow(t, b, c):
			chains++
		case !mustFollow(t, a, c):
			broken++
		}
	}
	if chains < 500 || broken < 100 {
		t.Errorf("%d chains, %d that were none", chains, broken)
	}
}

// P21.6: of Least's rules none follows from the others, no literal can be taken away, and Least of them is they themselves; what is left stands in its order.
func TestLeastIsLeast(t *testing.T) {
	d := dice(15)
	left, bodies := 0, 0
	for range 500 {
		rules := d.rules(7, 4)
		least := mustBeLeast(t, rules)
		if again := mustBeLeast(t, least); showRules(again...) != showRules(least...) {
			t.Fatalf("Least(%s):\n%sand then:\n%s", showRules(rules...), showRules(least...), showRules(again...))
		}
		for i, r := range least {
			if mustFollow(t, slices.Concat(least[:i], least[i+1:]), r) {
				t.Fatalf("Least(%s): %s follows from the others:\n%s", showRules(rules...), showRules(r), showRules(least...))
			}
			for j := range r.Body {
				less := api.Rule{Pred: r.Pred, Head: r.Head, Body: slices.Concat(r.Body[:j], r.Body[j+1:])}
				if isSafe(less) && mustFollow(t, least, less) {
					t.Fatalf("Least(%s): %s can be less:\n%s", showRules(rules...), showRules(r), showRules(least...))
				}
			}
			left++
			bodies += len(r.Body)
		}
		if !standsIn(least, rules, isLess) {
			t.Fatalf("Least(%s) is in another order:\n%s", showRules(rules...), showRules(least...))
		}
	}
	if left < 800 || bodies < 1000 {
		t.Errorf("%d rules were left with %d literals", left, bodies)
	}
}

// standsIn: is each thing of a list one of another list, in that order?
func standsIn[T any](some, all []T, is func(one, of T) bool) bool {
	for _, of := range all {
		if len(some) > 0 && is(some[0], of) {
			some = some[1:]
		}
	}
	return len(some) == 0
}

// isLess: is the first rule the second one without some literals?
func isLess(one, of api.Rule) bool {
	same := func(a, b api.Literal) bool {
		return a.Kind == b.Kind && a.Atom.Pred == b.Atom.Pred && slices.Equal(a.Atom.Args, b.Atom.Args)
	}
	return one.Pred == of.Pred && slices.Equal(one.Head, of.Head) && standsIn(one.Body, of.Body, same)
}

// cells are where the texts of all cells of lists stand, spare room too: two lists that share memory have one in common.
type cells map[*string]int

func (c cells) terms(l []api.Term) {
	l = l[:cap(l)]
	for i := range l {
		c[&l[i].Var]++
	}
}

func (c cells) facts(l []api.Fact) {
	l = l[:cap(l)]
	for i := range l {
		c[&l[i].Pred]++
		args := l[i].Args[:cap(l[i].Args)]
		for j := range args {
			c[&args[j].Text]++
		}
	}
}

func (c cells) rules(l []api.Rule) {
	l = l[:cap(l)]
	for i := range l {
		c[&l[i].Pred]++
		args := l[i].Head[:cap(l[i].Head)]
		for j := range args {
			c[&args[j].Term.Var]++
		}
		body := l[i].Body[:cap(l[i].Body)]
		for j := range body {
			c[&body[j].Atom.Pred]++
			c.terms(body[j].Atom.Args)
		}
	}
}

// isOwn: does no cell stand in two lists?
func (c cells) isOwn() bool {
	for _, n := range c {
		if n > 1 {
			return false
		}
	}
	return true
}

// dirty answers a copy of a list with room behind it that must stay as it is.
func dirty[T any](l []T, spare T) []T {
	out := append(make([]T, 0, len(l)+3), l...)
	room := out[len(out):cap(out)]
	for i := range room {
		room[i] = spare
	}
	return out
}

func dirtyRules(l []api.Rule) []api.Rule {
	out := dirty(l, api.Rule{Pred: "spare"})
	for i, r := range out {
		out[i].Head = dirty(r.Head, api.Arg{Term: v("Spare")})
		out[i].Body = dirty(r.Body, pos("spare"))
		for j, lit := range out[i].Body {
			lit.Atom.Args = dirty(lit.Atom.Args, v("Spare"))
			out[i].Body[j] = lit
		}
	}
	return out
}

// whole writes rules with their spare room.
func whole(l []api.Rule) string {
	out := fmt.Sprint(l[:cap(l)])
	for _, r := range l {
		out += "\n" + fmt.Sprint(r.Head[:cap(r.Head)]) + fmt.Sprint(r.Body[:cap(r.Body)])
		for _, lit := range r.Body {
			out += fmt.Sprint(lit.Atom.Args[:cap(lit.Atom.Args)])
		}
	}
	return out
}

// R4: what is handed in stays as it was, its spare room too; no list of an answer shares memory with another one, of another answer or of what was handed in.
func TestMemoryOfItsOwn(t *testing.T) {
	d := dice(16)
	frozen, left := 0, 0
	for range 200 {
		rules := dirtyRules(d.rules(6, 4))
		before := whole(rules)
		all := cells{}
		all.rules(rules)
		for range 2 {
			out := mustBeLeast(t, rules)
			all.rules(out)
			left += len(out)
			for i, r := range rules {
				l, f, _ := core.Freeze(r)
				all.facts(append(slices.Clip(l), f))
				frozen += len(l)
				mustFollow(t, rules[:i], r)
				core.Same(rules[:i], rules[i:])
			}
		}
		if !all.isOwn() {
			t.Fatalf("%s: two lists share memory", showRules(rules...))
		}
		if whole(rules) != before {
			t.Fatalf("%s: what was handed in is turned", showRules(rules...))
		}
	}
	if frozen < 1500 || left < 500 {
		t.Errorf("%d facts, %d rules alone", frozen, left)
	}
}

// R5: the same call twice.
func TestTwice(t *testing.T) {
	d := dice(17)
	for range 100 {
		rules := d.rules(8, 5)
		want := showRules(mustBeLeast(t, rules)...)
		for range 3 {
			if got := showRules(mustBeLeast(t, rules)...); got != want {
				t.Fatalf("Least(%s):\n%s\nand then:\n%s", showRules(rules...), want, got)
			}
		}
	}
}
