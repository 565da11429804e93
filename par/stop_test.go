package par_test

import (
	"math"
	"runtime"
	"strings"
	"sync"
	"sync/atomic"
	"testing"
	"time"

	"pedigree/api"
	"pedigree/par"
)

// P26.2: how many rounds a stop lets be; below 0: any number.
func TestRoundsOfStops(t *testing.T) {
	for _, n := range []int{0, 1, 2, 3, 7, 100, 1000} {
		s := par.NewStop(n)
		if s.Stopped() {
			t.Errorf("a new stop of %d is stopped", n)
		}
		if got := left(s); got != n || !s.Stopped() {
			t.Errorf("a stop of %d lets %d rounds be; stopped %v", n, got, s.Stopped())
		}
		wantStopped(t, "", "", 1, s, api.ErrStopped, true)
	}
	for _, n := range []int{-1, -2, -1000, math.MinInt, math.MaxInt, math.MaxInt32, math.MaxInt32 + 1} {
		s := par.NewStop(n)
		for range 2000 {
			wantStopped(t, "", "", 1, s, api.OK, false)
		}
		wantStopped(t, ancestors, parents, 5, s, api.OK, false)
		s.Now()
		wantStopped(t, "", "", 1, s, api.ErrStopped, true)
	}
}

// P26.2, P26.6: Now, called any number of times, is for good, whatever the stop lets be.
func TestNow(t *testing.T) {
	for _, n := range []int{-1, 0, 1, 9, math.MaxInt} {
		s := par.NewStop(n)
		for range 3 {
			s.Now()
			if !s.Stopped() {
				t.Errorf("a stop of %d is not stopped by Now", n)
			}
		}
		wantStopped(t, ancestors, parents, 2, s, api.ErrStopped, true)
		if got, err := par.Model(api.Program{Rules: rulesOf(t, "p.")}, nil, 2, s); err != api.ErrStopped || len(got) != 0 {
			t.Errorf("Model = %s, %d", show(got), err)
		}
		// Without rules there are no rounds ahead of which it could be asked.
		if got, err := par.Model(api.Program{}, factsOf(t, "b. a."), 2, s); err != api.OK || show(got) != "a, b" {
			t.Errorf("Model = %s, %d", show(got), err)
		}
		s.Now()
		if !s.Stopped() {
			t.Error("what has been stopped is not stopped")
		}
	}
}

// P26.2, R3: a stop that is not there lets any number of rounds be, and never stops anything.
func TestNoStop(t *testing.T) {
	var none *par.Stop
	for _, s := range []*par.Stop{none, {}, new(par.Stop)} {
		for range 3 {
			s.Now()
			wantStopped(t, ancestors, parents, 3, s, api.OK, false)
			wantStopped(t, ancestors, parents, 0, s, api.ErrArg, false)
			if got, err := par.Model(api.Program{Rules: rulesOf(t, ancestors)}, factsOf(t, parents), 3, s); err != api.OK || show(got) != family {
				t.Errorf("Model = %s, %d", show(got), err)
			}
			for range 50 {
				wantStopped(t, "", "", 1, s, api.OK, false)
			}
		}
		if s.Stopped() {
			t.Error("a stop that is not there is stopped")
		}
	}
}

// R1: a struct that is a stop's copy is stopped with it, and no call of either panics.
func TestCopyOfStop(t *testing.T) {
	for _, n := range []int{-1, 0, 5} {
		s := par.NewStop(n)
		c := *s
		c.Now()
		s.Now()
		if !s.Stopped() || !c.Stopped() {
			t.Errorf("stopped %v, %v", s.Stopped(), c.Stopped())
		}
		wantStopped(t, "", "", 1, &c, api.ErrStopped, true)
		wantStopped(t, "", "", 1, s, api.ErrStopped, true)
	}
}

// P26.2, P26.6, R5: any calls, one behind the other, on two stops by turns, held against the chapter's words.
func TestStopsOfAnything(t *testing.T) {
	d := dice(21)
	stopped := 0
	for range 1500 {
		var stops [2]*par.Stop
		var slow [2]slowStop
		for i := range stops {
			n := d.below(40) - 3
			stops[i], slow[i] = par.NewStop(n), slowStop{rounds: n}
		}
		for range 1 + d.below(20) {
			i := d.below(2)
			switch d.below(8) {
			case 0:
				if d.below(4) == 0 {
					stops[i].Now()
					slow[i].stopped = true
				}
			case 1, 2, 3:
				code := slow[i].draw(4)
				wantStopped(t, ancestors, parents, d.crew(), stops[i], code, slow[i].stopped)
			case 4:
				code := slow[i].draw(2)
				if _, err := par.Model(api.Program{Rules: rulesOf(t, counts)}, factsOf(t, "e(1). e(2)."), d.crew(), stops[i]); err != code {
					t.Errorf("Model: %d; want %d", err, code)
				}
			case 5:
				wantStopped(t, ancestors, parents, noCrews()[d.below(6)], stops[i], api.ErrArg, slow[i].stopped)
			default:
				code := slow[i].draw(1)
				wantStopped(t, "", "e(1).", d.crew(), stops[i], code, slow[i].stopped)
			}
		}
		for i, s := range stops {
			stopped += map[bool]int{true: 1}[slow[i].stopped]
			wantLeft(t, s, slow[i])
		}
	}
	if stopped < 700 || stopped > 2300 {
		t.Errorf("%d stops of 3000 were stopped", stopped)
	}
}

// P26.2: several runs at one time draw on one stop's rounds: just as many are let be.
func TestStopOfSeveral(t *testing.T) {
	for range 20 {
		s := par.NewStop(500)
		var rounds atomic.Int64
		var all sync.WaitGroup
		for range 8 {
			all.Go(func() {
				for {
					if _, _, err := par.Run(nil, nil, 2, s); err != api.OK {
						return
					}
					rounds.Add(1)
				}
			})
		}
		all.Wait()
		if rounds.Load() != 500 || !s.Stopped() {
			t.Fatalf("%d rounds were let be, stopped %v", rounds.Load(), s.Stopped())
		}
	}
}

// P26.2: Now of many at one time, beside runs and those who ask whether it is stopped.
func TestNowOfMany(t *testing.T) {
	for range 50 {
		s := par.NewStop(-1)
		var all sync.WaitGroup
		for range 8 {
			all.Go(s.Now)
			all.Go(func() {
				if got, x, err := par.Run(rulesOf(t, ancestors), factsOf(t, parents), 4, s); err == api.OK && show(got) != family || err != api.OK && (err != api.ErrStopped || len(got) != 0 || x.Rounds != 0) {
					t.Errorf("Run = %s, %d", show(got), err)
				}
			})
			all.Go(func() {
				for !s.Stopped() {
					runtime.Gosched()
				}
			})
		}
		all.Wait()
		wantStopped(t, ancestors, parents, 4, s, api.ErrStopped, true)
	}
}

// P26.1, P26.2: Now while a long run goes on: it ends ahead of its next round, and what it began has ended.
func TestNowWhileRunning(t *testing.T) {
	// Each of its rounds has ten thousand joins, so that it would take long.
	rules := rulesOf(t, "r(0). r(Y) :- r(X), e(X, Y), n(_), n(_).")
	l := chain("e", 5000)
	for i := range int64(100) {
		l = append(l, nums("n", i))
	}
	for _, n := range []int{1, 4, 16} {
		before := runtime.NumGoroutine()
		s := par.NewStop(-1)
		ended := make(chan api.Errno)
		go func() {
			got, x, err := par.Run(rules, l, n, s)
			if len(got) != 0 || stats(x) != "0 [] 0" {
				t.Errorf("a run that is stopped answers %d facts, %s", len(got), brief(stats(x)))
			}
			ended <- err
		}()
		waitForWorkers(t, n)
		time.Sleep(50 * time.Millisecond)
		s.Now()
		if err := <-ended; err != api.ErrStopped {
			t.Errorf("by %d: %d", n, err)
		}
		wantEnded(t, before)
	}
}

// waitForWorkers waits till all are seen at work. (If they never were, it would mean nothing that none is behind a call.)
func waitForWorkers(t *testing.T, n int) {
	t.Helper()
	for range 5000 {
		if labouring() == n {
			return
		}
		time.Sleep(time.Millisecond)
	}
	t.Errorf("%d of %d are seen at work", labouring(), n)
}

// labouring is how many goroutines are at work as workers.
func labouring() int {
	room := make([]byte, 1<<20)
	return strings.Count(string(room[:runtime.Stack(room, true)]), "pedigree/par.labour(")
}

// P26.1: when a call answers, none labours any more, not even for a moment.
func TestNoneLaboursOn(t *testing.T) {
	rules, facts := rulesOf(t, ancestors), factsOf(t, parents)
	for range 20 {
		for _, rounds := range []int{-1, 0, 2} {
			par.Run(rules, facts, 16, par.NewStop(rounds))
			if n := labouring(); n != 0 {
				t.Fatalf("behind Run by a stop of %d rounds %d are at work", rounds, n)
			}
			par.Model(api.Program{Rules: rules}, facts, 16, par.NewStop(rounds))
			if n := labouring(); n != 0 {
				t.Fatalf("behind Model by a stop of %d rounds %d are at work", rounds, n)
			}
		}
	}
}

// wantEnded asks that no more goroutines are there than before. (One that has told that it ends may take a moment to be gone.)
func wantEnded(t *testing.T, before int) {
	t.Helper()
	for range 200 {
		if runtime.NumGoroutine() <= before {
			return
		}
		time.Sleep(time.Millisecond)
	}
	t.Errorf("%d goroutines are left of %d", runtime.NumGoroutine(), before)
}

// P26.1: whatever a call answers, all that it began has ended.
func TestAllHasEnded(t *testing.T) {
	before := runtime.NumGoroutine()
	p := api.Program{Rules: rulesOf(t, counts)}
	for _, n := range append(crews(), noCrews()...) {
		for _, rounds := range []int{-1, 0, 1, 2, 3} {
			par.Run(rulesOf(t, ancestors), factsOf(t, parents), n, par.NewStop(rounds))
			par.Run(p.Rules, nil, n, par.NewStop(rounds))
			par.Run(nil, nil, n, par.NewStop(rounds))
			par.Model(p, factsOf(t, "e(1). e(2)."), n, par.NewStop(rounds))
			par.Model(p, factsOf(t, "e. e(2)."), n, par.NewStop(rounds))
			par.Model(api.Program{}, nil, n, par.NewStop(rounds))
		}
	}
	wantEnded(t, before)
}
