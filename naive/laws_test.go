package naive_test

import (
	"fmt"
	"slices"
	"testing"

	"pedigree/api"
	"pedigree/naive"
	"pedigree/value"
)

func mustGive(t *testing.T, r api.Rule, l []api.Fact) []api.Fact {
	t.Helper()
	out, err := naive.Gives(r, l)
	if err != api.OK {
		t.Fatalf("Gives(%s, %s): %d", brief(r), brief(show(l)), err)
	}
	return out
}

func mustStep(t *testing.T, rules []api.Rule, l []api.Fact) []api.Fact {
	t.Helper()
	out, err := naive.Step(rules, l)
	if err != api.OK {
		t.Fatalf("Step(%s, %s): %d", brief(rules), brief(show(l)), err)
	}
	return out
}

func mustRank(t *testing.T, rules []api.Rule, l []api.Fact) []api.Ranked {
	t.Helper()
	out, err := naive.Ranks(rules, l)
	if err != api.OK {
		t.Fatalf("Ranks(%s, %s): %d", brief(rules), brief(show(l)), err)
	}
	return out
}

// upTo are the facts of ranks up to one; in order.
func upTo(l []api.Ranked, rank int) []api.Fact {
	var out []api.Fact
	for _, r := range l {
		if r.Rank <= rank {
			out = append(out, r.Fact)
		}
	}
	return out
}

func highest(l []api.Ranked) int {
	out := 0
	for _, r := range l {
		out = max(out, r.Rank)
	}
	return out
}

func factsIn(l []api.Ranked) []api.Fact { return upTo(l, highest(l)) }

// isGiven: does one of the rules give the fact over these?
func isGiven(t *testing.T, rules []api.Rule, l []api.Fact, f api.Fact) bool {
	t.Helper()
	return slices.ContainsFunc(rules, func(r api.Rule) bool { return isIn(mustGive(t, r, l), f) })
}

// holdsAll: is each of these among those?
func holdsAll(all, some []api.Fact) bool {
	return !slices.ContainsFunc(some, func(f api.Fact) bool { return !isIn(all, f) })
}

// isRising: do facts rise, each once?
func isRising(l []api.Fact) bool {
	for i := range len(l) - 1 {
		if value.CompareFacts(l[i], l[i+1]) >= 0 {
			return false
		}
	}
	return true
}

// P14.2 to P14.4: a Step is the facts and what each rule Gives over them; all is told in order, each once.
func TestStepIsFactsAndWhatRulesGive(t *testing.T) {
	d := dice(11)
	for range 2000 {
		rules, l := d.rules(6), d.facts(16)
		want := slices.Clone(l)
		for _, r := range rules {
			more := mustGive(t, r, l)
			if !isRising(more) {
				t.Fatalf("Gives(%s, %s) = %s", brief(r), brief(show(l)), show(more))
			}
			want = append(want, more...)
		}
		got := mustStep(t, rules, l)
		if !isRising(got) || show(got) != show(value.Facts(want)) {
			t.Fatalf("Step(%s, %s) = %s; want %s", brief(rules), brief(show(l)), show(got), show(value.Facts(want)))
		}
	}
}

// P14.5: the facts of Ranks are closed.
func TestClosed(t *testing.T) {
	d := dice(12)
	for range 2000 {
		rules, l := d.flat(7), d.facts(20)
		all := factsIn(mustRank(t, rules, l))
		if !isRising(all) || !holdsAll(all, value.Facts(l)) {
			t.Fatalf("Ranks(%s, %s) has the facts %s", brief(rules), brief(show(l)), show(all))
		}
		wantStep(t, rules, all, show(all))
		for _, r := range mustRank(t, rules, all) {
			if r.Rank != 0 || !isIn(all, r.Fact) {
				t.Fatalf("Ranks over %s has %s %d", brief(show(all)), showFact(r.Fact), r.Rank)
			}
		}
	}
}

// P14.5: rank 0 have the given facts; one of rank n + 1 is given over those of ranks up to n, and, if n is above 0, by none over those of ranks up to n - 1.
func TestEachRankHasItsReason(t *testing.T) {
	d := dice(13)
	late := 0
	for range 1200 {
		rules, l := d.flat(7), d.facts(20)
		ranked := mustRank(t, rules, l)
		first := value.Facts(l)
		for _, r := range ranked {
			n := r.Rank - 1
			switch {
			case (r.Rank == 0) != isIn(first, r.Fact):
				t.Fatalf("Ranks(%s, %s): %s has rank %d", brief(rules), brief(show(l)), showFact(r.Fact), r.Rank)
			case r.Rank > 0 && !isGiven(t, rules, upTo(ranked, n), r.Fact):
				t.Fatalf("Ranks(%s, %s): nothing gives %s at step %d", brief(rules), brief(show(l)), showFact(r.Fact), r.Rank)
			case n > 0 && isGiven(t, rules, upTo(ranked, n-1), r.Fact):
				t.Fatalf("Ranks(%s, %s): %s comes ahead of step %d", brief(rules), brief(show(l)), showFact(r.Fact), r.Rank)
			case n > 0:
				late++
			}
		}
		for n := range highest(ranked) {
			wantStep(t, rules, upTo(ranked, n), show(upTo(ranked, n+1)))
		}
	}
	if late < 500 {
		t.Errorf("%d facts alone had ranks above 1", late)
	}
}

// under are the predicates that stand under a not.
func under(rules []api.Rule) []string {
	var out []string
	for _, r := range rules {
		for _, lit := range r.Body {
			if lit.Kind == api.LNot {
				out = append(out, lit.Atom.Pred)
			}
		}
	}
	return out
}

// more are facts of predicates that stand under no not.
func (d *dice) more(rules []api.Rule, most int) []api.Fact {
	return slices.DeleteFunc(d.facts(most), func(f api.Fact) bool { return slices.Contains(under(rules), f.Pred) })
}

// P14.5: what holds the given facts, has the same ones under nots, and is closed, holds all; without one of those that came, nothing is closed.
func TestLeast(t *testing.T) {
	d := dice(14)
	other, less := 0, 0
	for range 1200 {
		rules, l := d.flat(7), d.facts(16)
		all := factsIn(mustRank(t, rules, l))
		closed := value.Facts(slices.Concat(l, d.more(rules, 8)))
		for {
			next := slowStep(rules, closed)
			if len(next) == len(closed) {
				break
			}
			closed = next
		}
		if !holdsAll(closed, all) {
			t.Fatalf("Ranks(%s, %s) has more than %s", brief(rules), brief(show(l)), show(closed))
		}
		if len(closed) > len(all) {
			other++
		}
		first := value.Facts(l)
		some := slices.DeleteFunc(slices.Clone(all), func(f api.Fact) bool { return !isIn(first, f) && d.below(3) == 0 })
		if len(some) < len(all) {
			less++
			if show(mustStep(t, rules, some)) == show(some) {
				t.Fatalf("Ranks(%s, %s) = %s, and less is closed: %s", brief(rules), brief(show(l)), show(all), show(some))
			}
		}
	}
	if other < 500 || less < 300 {
		t.Errorf("%d closed lists alone had more, %d had less", other, less)
	}
}

// P14.5: more given facts of predicates under no not take none away, and give none a greater rank.
func TestMoreFacts(t *testing.T) {
	d := dice(15)
	grown, sooner := 0, 0
	for range 2000 {
		rules, l := d.flat(7), d.facts(16)
		before := mustRank(t, rules, l)
		after := mustRank(t, rules, slices.Concat(l, d.more(rules, 5)))
		for _, r := range before {
			i := slices.IndexFunc(after, func(x api.Ranked) bool { return value.CompareFacts(x.Fact, r.Fact) == 0 })
			if i < 0 || after[i].Rank > r.Rank {
				t.Fatalf("Ranks(%s, %s): with more facts %s 's rank is not %d, nor less", brief(rules), brief(show(l)), showFact(r.Fact), r.Rank)
			}
			if after[i].Rank < r.Rank {
				sooner++
			}
		}
		if len(after) > len(before) {
			grown++
		}
	}
	if grown < 500 || sooner < 100 {
		t.Errorf("%d alone had more facts, %d came sooner", grown, sooner)
	}
}

// shuffled are the same in another order, some of them twice.
func shuffled[T any](d *dice, l []T) []T {
	out := slices.Clone(l)
	for range d.below(4) * min(len(l), 1) {
		out = append(out, l[d.below(len(l))])
	}
	for i := range out {
		j := d.below(i + 1)
		out[i], out[j] = out[j], out[i]
	}
	return out
}

// P14.5, R6: rules and facts in any order, and twice.
func TestAnyOrder(t *testing.T) {
	d := dice(16)
	for range 2000 {
		rules, l := d.flat(7), d.facts(16)
		others, m := shuffled(&d, rules), shuffled(&d, l)
		wantRanks(t, others, m, showRanks(mustRank(t, rules, l)))
		wantStep(t, others, m, show(mustStep(t, rules, l)))
		for _, r := range rules {
			wantGives(t, r, m, show(mustGive(t, r, l)))
		}
	}
}

// dirty answers a copy of a list with room behind it that must stay as it is.
func dirty[T any](l []T, spare T) []T {
	out := append(make([]T, 0, len(l)+3), l...)
	room := out[len(out):cap(out)]
	for i := range room {
		room[i] = spare
	}
	return out
}

func dirtyFacts(l []api.Fact) []api.Fact {
	out := dirty(l, nums("spare", 77))
	for i, f := range out {
		out[i].Args = dirty(f.Args, num(77))
	}
	return out
}

func dirtyExpr(e api.Expr) api.Expr {
	e.Kids = dirty(e.Kids, ex(v("Spare")))
	for i := range e.Kids {
		e.Kids[i] = dirtyExpr(e.Kids[i])
	}
	return e
}

func dirtyRules(l []api.Rule) []api.Rule {
	out := dirty(l, api.Rule{Pred: "spare"})
	for i, r := range out {
		out[i].Head = dirty(r.Head, api.Arg{Term: v("Spare")})
		out[i].Body = dirty(r.Body, pos("spare"))
		for j, lit := range out[i].Body {
			lit.Atom.Args = dirty(lit.Atom.Args, v("Spare"))
			lit.Left, lit.Right = dirtyExpr(lit.Left), dirtyExpr(lit.Right)
			out[i].Body[j] = lit
		}
	}
	return out
}

// whole writes what was handed in with its spare room.
func whole(rules []api.Rule, l []api.Fact) string {
	out := fmt.Sprint(rules[:cap(rules)]) + show(l[:cap(l)])
	for _, f := range l {
		out += showFact(api.Fact{Pred: f.Pred, Args: f.Args[:cap(f.Args)]})
	}
	for _, r := range rules {
		out += "\n" + fmt.Sprint(r.Head[:cap(r.Head)]) + fmt.Sprint(r.Body[:cap(r.Body)])
		for _, lit := range r.Body {
			out += fmt.Sprint(lit.Atom.Args[:cap(lit.Atom.Args)]) + wholeExpr(lit.Left) + wholeExpr(lit.Right)
		}
	}
	return out
}

func wholeExpr(e api.Expr) string {
	out := fmt.Sprint(e.Kids[:cap(e.Kids)])
	for _, kid := range e.Kids {
		out += wholeExpr(kid)
	}
	return out
}

// R4: what is handed in stays as it was, its spare room too.
func TestWhatIsHandedInStays(t *testing.T) {
	d := dice(17)
	for range 800 {
		rules, l := dirtyRules(d.flat(5)), dirtyFacts(d.facts(12))
		before := whole(rules, l)
		mustStep(t, rules, l)
		mustRank(t, rules, l)
		for _, r := range rules {
			mustGive(t, r, l)
		}
		if whole(rules, l) != before {
			t.Fatalf("what was handed in is turned: %s over %s", brief(rules), brief(show(l)))
		}
	}
}

// spoil writes over a list and its spare room.
func spoil[T any](l []T, with T) {
	l = l[:cap(l)]
	for i := range l {
		l[i] = with
	}
}

func spoilFacts(l []api.Fact) {
	for _, f := range l {
		spoil(f.Args, text("spoilt"))
	}
	spoil(l, nums("spoilt", 1))
}

func spoilRanks(l []api.Ranked) {
	for _, r := range l {
		spoil(r.Fact.Args, text("spoilt"))
	}
	spoil(l, api.Ranked{Rank: 77})
}

// R4: an answer is memory of its own: it shares none with what was handed in, nor with another answer.
func TestAnswersAreNewMemory(t *testing.T) {
	d := dice(18)
	for range 800 {
		rules, l := dirtyRules(d.flat(5)), dirtyFacts(d.facts(12))
		before := whole(rules, l)
		step, ranked := mustStep(t, rules, l), mustRank(t, rules, l)
		stepped, ranks := show(step), showRanks(ranked)
		spoilFacts(mustStep(t, rules, l))
		spoilRanks(mustRank(t, rules, l))
		for _, r := range rules {
			gives := mustGive(t, r, l)
			given := show(gives)
			spoilFacts(mustGive(t, r, l))
			if show(gives) != given {
				t.Fatalf("answers of Gives share memory: %s", brief(r))
			}
		}
		if show(step) != stepped || showRanks(ranked) != ranks || whole(rules, l) != before {
			t.Fatalf("an answer shares memory: %s over %s", brief(rules), brief(show(l)))
		}
		spoilFacts(l)
		if show(step) != stepped || showRanks(ranked) != ranks {
			t.Fatalf("an answer shares memory with what was handed in: %s", brief(rules))
		}
	}
}

// R4: no two lists within one answer share memory.
func TestListsWithinAnAnswer(t *testing.T) {
	rules, l := rulesOf(t, "p(X, 5, Y) :- e(X, Y). p(1, 2, 3). q(Y, X) :- p(X, _, Y)."), factsOf(t, "e(1, 2). e(2, 3). e(1, 2). f(1).")
	calls := []func() []api.Fact{
		func() []api.Fact { return mustGive(t, rules[0], l) },
		func() []api.Fact { return mustStep(t, rules, l) },
		func() []api.Fact { return factsIn(mustRank(t, rules, l)) },
	}
	for _, call := range calls {
		want := call()
		for i := range want {
			l := call()
			spoil(l[i].Args, text("spoilt"))
			for j := range l {
				if j != i && showFact(l[j]) != showFact(want[j]) {
					t.Errorf("the facts %d and %d of %s share memory", i, j, show(want))
				}
			}
		}
	}
}
