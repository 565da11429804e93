package par_test

import (
	"runtime"
	"slices"
	"sync"
	"testing"

	"pedigree/api"
	"pedigree/depend"
	"pedigree/group"
	"pedigree/model"
	"pedigree/naive"
	"pedigree/par"
	"pedigree/semi"
	"pedigree/value"
)

func mustRun(t *testing.T, rules []api.Rule, l []api.Fact, workers int, s *par.Stop) ([]api.Fact, api.Stats) {
	t.Helper()
	out, x, err := par.Run(rules, l, workers, s)
	if err != api.OK {
		t.Fatalf("Run(%s, %s, %d): %d", brief(rules), brief(show(l)), workers, err)
	}
	return out, x
}

func mustModel(t *testing.T, rules []api.Rule, l []api.Fact, workers int, s *par.Stop) []api.Fact {
	t.Helper()
	out, err := par.Model(api.Program{Rules: rules}, l, workers, s)
	if err != api.OK {
		t.Fatalf("Model(%s, %s, %d): %d", brief(rules), brief(show(l)), workers, err)
	}
	return out
}

// mixed are the same in another order.
func mixed[T any](d *dice, l []T) []T {
	out := slices.Clone(l)
	for i := range out {
		j := d.below(i + 1)
		out[i], out[j] = out[j], out[i]
	}
	return out
}

// twice are the same in another order, some of them twice.
func twice[T any](d *dice, l []T) []T {
	out := slices.Clone(l)
	for range d.below(4) * min(len(l), 1) {
		out = append(out, l[d.below(len(l))])
	}
	return mixed(d, out)
}

// spread are many more facts than there are workers: of e and t by small numbers, and some others.
func (d *dice) spread(most int) []api.Fact {
	out := d.facts(8)
	for range d.below(most + 1) {
		out = append(out, nums(d.one("e", "e", "e", "t"), int64(d.below(14)), int64(d.below(14))))
	}
	return out
}

// P26.1, P26.3: each crew answers what semi.Run does, also where each worker has several facts of a round.
func TestEachCrewRunsAsOne(t *testing.T) {
	d := dice(31)
	large := 0
	for range 200 {
		rules, l := d.flat(3), d.spread(60)
		want, x, err := semi.Run(rules, l)
		if err != api.OK {
			t.Fatalf("semi.Run(%s, %s): %d", brief(rules), brief(show(l)), err)
		}
		if x.Joins > 20000 {
			continue
		}
		for _, n := range crews() {
			wantRunBy(t, n, rules, l, show(want), stats(x))
		}
		if x.Rounds > 2 && len(want) > 100 {
			large++
		}
	}
	if large < 12 {
		t.Errorf("%d alone had several rounds and many facts", large)
	}
}

// P26.1, P26.5: each crew answers what model.Model does.
func TestEachCrewModelsAsOne(t *testing.T) {
	d := dice(32)
	for range 150 {
		rules, l := d.leveled(8), d.spread(40)
		want, err := model.Model(api.Program{Rules: rules}, l)
		if err != api.OK {
			t.Fatalf("model.Model(%s, %s): %d", brief(rules), brief(show(l)), err)
		}
		for _, n := range crews() {
			wantModelBy(t, n, api.Program{Rules: rules}, l, show(want))
		}
	}
}

// P26.6: a run is stopped just if the stop lets fewer rounds be than it has; else it lets so many less be.
func TestJustEnoughRounds(t *testing.T) {
	d := dice(33)
	for range 500 {
		rules, l := d.flat(3), d.pairs()
		want, x := mustRun(t, rules, l, d.crew(), nil)
		for more := range 3 {
			s := par.NewStop(x.Rounds + more)
			got, y := mustRun(t, rules, l, d.crew(), s)
			if show(got) != show(want) || stats(y) != stats(x) || s.Stopped() || left(s) != more {
				t.Fatalf("Run(%s, %s) by a stop of %d more: %s, stopped %v", brief(rules), brief(show(l)), more, stats(y), s.Stopped())
			}
		}
		for fewer := range x.Rounds {
			s := par.NewStop(fewer)
			got, y, err := par.Run(rules, l, d.crew(), s)
			if err != api.ErrStopped || len(got) != 0 || stats(y) != "0 [] 0" || !s.Stopped() {
				t.Fatalf("Run(%s, %s) by a stop of %d: %d, %s", brief(rules), brief(show(l)), fewer, err, stats(y))
			}
		}
	}
}

// P26.4: the rounds of a model are those that its levels' rules without aggregates have, over what is there by then.
func TestRoundsOfLevels(t *testing.T) {
	d := dice(34)
	for range 700 {
		rules, l := d.leveled(8), d.facts(16)
		list, _, _ := depend.Levels(api.Program{Rules: rules})
		all, rounds := l, 0
		for n := range int32(len(list)) {
			var others, aggregates []api.Rule
			for _, r := range rules {
				at, _ := slices.BinarySearchFunc(list, r.Pred, func(x api.Level, name string) int {
					return value.Compare(text(x.Pred), text(name))
				})
				if list[at].N != n {
					continue
				}
				if hasAggregate(r) {
					aggregates = append(aggregates, r)
				} else {
					others = append(others, r)
				}
			}
			if len(others)+len(aggregates) == 0 {
				continue
			}
			come := slices.Clone(all)
			for _, r := range aggregates {
				given, _ := group.Gives(r, all)
				come = append(come, given...)
			}
			var x api.Stats
			all, x, _ = semi.Run(others, come)
			rounds += x.Rounds
		}
		wantModelRounds(t, d.crew(), api.Program{Rules: rules}, l, rounds, show(value.Facts(all)))
	}
}

// P26.3, P26.5, P0.4, R6: rules and facts in another order, and facts twice: the same facts, and as many rounds and joins.
func TestAnyOrder(t *testing.T) {
	d := dice(35)
	for range 700 {
		rules, l := d.flat(4), d.pairs()
		want, x := mustRun(t, rules, l, d.crew(), nil)
		wantRunBy(t, d.crew(), mixed(&d, rules), twice(&d, l), show(want), stats(x))
		y := x
		y.Joins *= 2
		wantRunBy(t, d.crew(), mixed(&d, slices.Concat(rules, rules)), l, show(want), stats(y))

		rules, l = d.leveled(8), d.facts(16)
		s := par.NewStop(100)
		want = mustModel(t, rules, l, d.crew(), s)
		wantModelRounds(t, d.crew(), api.Program{Rules: twice(&d, rules)}, twice(&d, l), 100-left(s), show(want))
	}
}

// P26.3, P26.5: what is answered is closed, in order, and holds what is given; over itself it is the same in one round a level.
func TestClosed(t *testing.T) {
	d := dice(36)
	for range 700 {
		rules, l := d.flat(4), d.pairs()
		all, x := mustRun(t, rules, l, d.crew(), nil)
		step, err := naive.Step(rules, all)
		if err != api.OK || show(step) != show(all) || show(value.Facts(slices.Concat(all, l))) != show(all) {
			t.Fatalf("Run(%s, %s) = %s; a step leads to %s", brief(rules), brief(show(l)), show(all), show(step))
		}
		wantRunBy(t, d.crew(), rules, all, show(all), stats(api.Stats{Rounds: 1, Joins: x.Joins}))

		rules, l = d.leveled(8), d.facts(16)
		all = mustModel(t, rules, l, d.crew(), nil)
		if !model.Is(api.Program{Rules: rules}, l, all) || show(value.Facts(all)) != show(all) {
			t.Fatalf("Model(%s, %s) = %s", brief(rules), brief(show(l)), brief(show(all)))
		}
		levels, _ := slowLevels(rules)
		own := map[int]int{}
		for _, r := range rules {
			own[levels[r.Pred]]++
		}
		wantModelRounds(t, d.crew(), api.Program{Rules: rules}, all, len(own), show(all))
	}
}

// P26.1, R5: many calls at one time, each the same as alone, however the processors are shared out.
func TestManyAtOneTime(t *testing.T) {
	d := dice(37)
	processors := runtime.GOMAXPROCS(0)
	defer runtime.GOMAXPROCS(processors)
	for round := range 12 {
		runtime.GOMAXPROCS([]int{1, 2, processors}[round%3])
		rules, l := d.flat(4), d.spread(40)
		other, m := d.leveled(8), d.spread(40)
		want, x, _ := semi.Run(rules, l)
		whole, _ := model.Model(api.Program{Rules: other}, m)
		s := par.NewStop(-1)
		var all sync.WaitGroup
		for i := range 12 {
			all.Go(func() {
				wantRunBy(t, i+1, rules, l, show(want), stats(x))
				wantModelBy(t, i+1, api.Program{Rules: other}, m, show(whole))
				if got, y, err := par.Run(rules, l, 16-i, s); err != api.OK || show(got) != show(want) || stats(y) != stats(x) {
					t.Errorf("Run by a stop that others have too: %s, %s, %d", brief(show(got)), stats(y), err)
				}
			})
		}
		all.Wait()
	}
}

// R5: what a call answers hangs on nothing that another one was given.
func TestCallsKnowNothingOfOneAnother(t *testing.T) {
	wantRunBy(t, 3, rulesOf(t, ancestors), factsOf(t, parents), family, "4 [3 2 1] 6")
	wantRunBy(t, 3, rulesOf(t, "anc(X) :- par(X)."), factsOf(t, "par(5). anc(6)."), "anc(5), anc(6), par(5)", "2 [1] 1")
	wantModelBy(t, 3, api.Program{Rules: rulesOf(t, ancestors)}, nil, "")
	wantRunBy(t, 3, rulesOf(t, ancestors), nil, "", "1 [] 0")
	wantModelBy(t, 3, api.Program{Rules: rulesOf(t, ancestors)}, factsOf(t, parents), family)
}
