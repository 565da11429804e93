package semi_test

import (
	"fmt"
	"slices"
	"testing"

	"pedigree/api"
	"pedigree/naive"
	"pedigree/semi"
	"pedigree/value"
)

func mustRun(t *testing.T, rules []api.Rule, l []api.Fact) ([]api.Fact, api.Stats) {
	t.Helper()
	out, s, err := semi.Run(rules, l)
	if err != api.OK {
		t.Fatalf("Run(%s, %s): %d", brief(rules), brief(show(l)), err)
	}
	return out, s
}

func isIn(l []api.Fact, f api.Fact) bool {
	_, ok := slices.BinarySearchFunc(l, f, value.CompareFacts)
	return ok
}

// holdsAll: is each of these among those, which are in order?
func holdsAll(all, some []api.Fact) bool {
	return !slices.ContainsFunc(some, func(f api.Fact) bool { return !isIn(all, f) })
}

// isRising: do facts rise, each once?
func isRising(l []api.Fact) bool {
	for i := range len(l) - 1 {
		if value.CompareFacts(l[i], l[i+1]) >= 0 {
			return false
		}
	}
	return true
}

func sum(l []int) int {
	out := 0
	for _, n := range l {
		out += n
	}
	return out
}

// P15.2, P15.3: in order, with what is given, closed; what the rounds found, and what was given, is all; no round but the last found nothing.
func TestClosed(t *testing.T) {
	d := dice(11)
	for range 2000 {
		rules, l := d.flat(7), d.facts(20)
		all, s := mustRun(t, rules, l)
		step, err := naive.Step(rules, all)
		if !isRising(all) || !holdsAll(all, l) || err != api.OK || show(step) != show(all) {
			t.Fatalf("Run(%s, %s) = %s; a step leads to %s, %d", brief(rules), brief(show(l)), show(all), show(step), err)
		}
		if slices.Contains(s.New, 0) || s.Rounds != len(s.New)+1 || sum(s.New) != len(all)-len(value.Facts(l)) {
			t.Fatalf("Run(%s, %s) has %d facts, %s", brief(rules), brief(show(l)), len(all), stats(s))
		}
	}
}

// P15.4: a run over what a run answered.
func TestRunOverAnswer(t *testing.T) {
	d := dice(12)
	several := 0
	for range 2000 {
		rules, l := d.flat(7), d.facts(20)
		all, s := mustRun(t, rules, l)
		wantRun(t, rules, all, show(all), stats(api.Stats{Rounds: 1, Joins: s.Joins}))
		if s.Rounds > 2 && s.Joins > 10 {
			several++
		}
	}
	if several < 100 {
		t.Errorf("%d alone had several rounds and joins", several)
	}
}

// mixed are the same in another order.
func mixed[T any](d *dice, l []T) []T {
	out := slices.Clone(l)
	for i := range out {
		j := d.below(i + 1)
		out[i], out[j] = out[j], out[i]
	}
	return out
}

// twice are the same in another order, some of them twice.
func twice[T any](d *dice, l []T) []T {
	out := slices.Clone(l)
	for range d.below(4) * min(len(l), 1) {
		out = append(out, l[d.below(len(l))])
	}
	return mixed(d, out)
}

// P15.4, R6, P0.4: facts in another order, and twice, and rules in another order.
func TestAnyOrder(t *testing.T) {
	d := dice(13)
	for range 2000 {
		rules, l := d.flat(7), d.facts(16)
		all, s := mustRun(t, rules, l)
		wantRun(t, mixed(&d, rules), twice(&d, l), show(all), stats(s))
	}
}

// P15.3: a rule that stands twice counts twice, and changes nothing else.
func TestRuleTwice(t *testing.T) {
	d := dice(14)
	for range 1000 {
		rules, l := d.flat(5), d.facts(16)
		all, s := mustRun(t, rules, l)
		s.Joins *= 2
		wantRun(t, mixed(&d, slices.Concat(rules, rules)), l, show(all), stats(s))
	}
}

// P15.3: the joins of some rules and of the others, over the facts of all, are those of all.
func TestJoinsRuleByRule(t *testing.T) {
	d := dice(15)
	for range 1000 {
		rules, l := d.flat(7), d.facts(16)
		all, s := mustRun(t, rules, l)
		joins := 0
		for _, r := range rules {
			_, alone := mustRun(t, []api.Rule{r}, all)
			joins += alone.Joins
		}
		if joins != s.Joins {
			t.Fatalf("Run(%s, %s): %d joins, rule by rule %d", brief(rules), brief(show(l)), s.Joins, joins)
		}
	}
}

// positive are rules without nots.
func (d *dice) positive(most int) []api.Rule {
	rules := d.flat(most)
	return slices.DeleteFunc(rules, func(r api.Rule) bool {
		return slices.ContainsFunc(r.Body, func(lit api.Literal) bool { return lit.Kind == api.LNot })
	})
}

// P15.4: what holds the given facts and is closed under rules without a not holds all; without one of those that came, nothing is closed.
func TestLeast(t *testing.T) {
	d := dice(16)
	other, less := 0, 0
	for range 1200 {
		rules, l := d.positive(7), d.facts(16)
		all, _ := mustRun(t, rules, l)
		closed, _ := slowRun(rules, slices.Concat(l, d.facts(8)))
		if !holdsAll(closed, all) {
			t.Fatalf("Run(%s, %s) has more than %s", brief(rules), brief(show(l)), show(closed))
		}
		if len(closed) > len(all) {
			other++
		}
		first := value.Facts(l)
		some := slices.DeleteFunc(slices.Clone(all), func(f api.Fact) bool { return !isIn(first, f) && d.below(3) == 0 })
		if len(some) < len(all) {
			less++
			if step, err := naive.Step(rules, some); err != api.OK || show(step) == show(some) {
				t.Fatalf("Run(%s, %s) = %s, and less is closed: %s", brief(rules), brief(show(l)), show(all), show(some))
			}
		}
	}
	if other < 500 || less < 300 {
		t.Errorf("%d closed lists alone had more, %d had less", other, less)
	}
}

// P15.4: where there is no not, more given facts take nothing away.
func TestMoreFacts(t *testing.T) {
	d := dice(17)
	grown := 0
	for range 2000 {
		rules, l := d.positive(7), d.facts(16)
		before, _ := mustRun(t, rules, l)
		after, _ := mustRun(t, rules, slices.Concat(d.facts(5), l))
		if !holdsAll(after, before) {
			t.Fatalf("Run(%s, %s): more facts take away from %s: %s", brief(rules), brief(show(l)), show(before), show(after))
		}
		if len(after) > len(before) {
			grown++
		}
	}
	if grown < 500 {
		t.Errorf("%d alone had more facts", grown)
	}
}

// dirty answers a copy of a list with room behind it that must stay as it is.
func dirty[T any](l []T, spare T) []T {
	out := append(make([]T, 0, len(l)+3), l...)
	room := out[len(out):cap(out)]
	for i := range room {
		room[i] = spare
	}
	return out
}

func dirtyFacts(l []api.Fact) []api.Fact {
	out := dirty(l, nums("spare", 77))
	for i, f := range out {
		out[i].Args = dirty(f.Args, num(77))
	}
	return out
}

func dirtyExpr(e api.Expr) api.Expr {
	e.Kids = dirty(e.Kids, ex(v("Spare")))
	for i := range e.Kids {
		e.Kids[i] = dirtyExpr(e.Kids[i])
	}
	return e
}

func dirtyRules(l []api.Rule) []api.Rule {
	out := dirty(l, api.Rule{Pred: "spare"})
	for i, r := range out {
		out[i].Head = dirty(r.Head, api.Arg{Term: v("Spare")})
		out[i].Body = dirty(r.Body, pos("spare"))
		for j, lit := range out[i].Body {
			lit.Atom.Args = dirty(lit.Atom.Args, v("Spare"))
			lit.Left, lit.Right = dirtyExpr(lit.Left), dirtyExpr(lit.Right)
			out[i].Body[j] = lit
		}
	}
	return out
}

// whole writes what was handed in with its spare room.
func whole(rules []api.Rule, l []api.Fact) string {
	out := fmt.Sprint(rules[:cap(rules)]) + show(l[:cap(l)])
	for _, f := range l {
		out += showFact(api.Fact{Pred: f.Pred, Args: f.Args[:cap(f.Args)]})
	}
	for _, r := range rules {
		out += "\n" + fmt.Sprint(r.Head[:cap(r.Head)]) + fmt.Sprint(r.Body[:cap(r.Body)])
		for _, lit := range r.Body {
			out += fmt.Sprint(lit.Atom.Args[:cap(lit.Atom.Args)]) + wholeExpr(lit.Left) + wholeExpr(lit.Right)
		}
	}
	return out
}

func wholeExpr(e api.Expr) string {
	out := fmt.Sprint(e.Kids[:cap(e.Kids)])
	for _, kid := range e.Kids {
		out += wholeExpr(kid)
	}
	return out
}

// R4: what is handed in stays as it was, its spare room too.
func TestWhatIsHandedInStays(t *testing.T) {
	d := dice(18)
	for range 800 {
		rules, l := dirtyRules(d.flat(5)), dirtyFacts(d.facts(12))
		before := whole(rules, l)
		mustRun(t, rules, l)
		if whole(rules, l) != before {
			t.Fatalf("what was handed in is turned: %s over %s", brief(rules), brief(show(l)))
		}
	}
}

// spoil writes over a list and its spare room.
func spoil[T any](l []T, with T) {
	l = l[:cap(l)]
	for i := range l {
		l[i] = with
	}
}

func spoilFacts(l []api.Fact) {
	for _, f := range l {
		spoil(f.Args, text("spoilt"))
	}
	spoil(l, nums("spoilt", 1))
}

// R4: an answer is memory of its own: it shares none with what was handed in, nor with another answer.
func TestAnswersAreNewMemory(t *testing.T) {
	d := dice(19)
	for range 800 {
		rules, l := dirtyRules(d.flat(5)), dirtyFacts(d.facts(12))
		before := whole(rules, l)
		all, s := mustRun(t, rules, l)
		want := show(all) + stats(s)
		others, o := mustRun(t, rules, l)
		spoilFacts(others)
		spoil(o.New, -7)
		if show(all)+stats(s) != want || whole(rules, l) != before {
			t.Fatalf("an answer shares memory: %s over %s", brief(rules), brief(show(l)))
		}
		spoilFacts(l)
		if show(all)+stats(s) != want {
			t.Fatalf("an answer shares memory with what was handed in: %s", brief(rules))
		}
	}
}

// R4: no two lists within one answer share memory.
func TestListsWithinAnAnswer(t *testing.T) {
	rules, l := rulesOf(t, "p(X, 5, Y) :- e(X, Y). p(1, 2, 3). q(Y, X) :- p(X, _, Y)."), factsOf(t, "e(1, 2). e(2, 3). e(1, 2). f(1).")
	want, s := mustRun(t, rules, l)
	for i := range want {
		got, _ := mustRun(t, rules, l)
		spoil(got[i].Args, text("spoilt"))
		for j := range got {
			if j != i && showFact(got[j]) != showFact(want[j]) {
				t.Errorf("the facts %d and %d of %s share memory", i, j, show(want))
			}
		}
	}
	// Nor do the lists of the facts and of what each round found.
	spoilFacts(want)
	if stats(s) != "3 [3 3] 6" {
		t.Errorf("the stats are %s", stats(s))
	}
}

// R5: what a run answers hangs on nothing that another one was given.
func TestRunsKnowNothingOfOneAnother(t *testing.T) {
	rules, l := rulesOf(t, ancestors), factsOf(t, "par(1, 2). par(2, 3).")
	all, s := mustRun(t, rules, l)
	mustRun(t, rulesOf(t, "anc(X) :- par(X)."), factsOf(t, "par(5). anc(6)."))
	wantRun(t, rules, l, show(all), stats(s))
	wantRun(t, rules, nil, "", "1 [] 0")
}
