package store_test

import (
	"fmt"
	"strings"
	"sync"
	"testing"

	"pedigree/api"
	"pedigree/check"
	"pedigree/engine"
	"pedigree/store"
	"pedigree/types"
)

// call is one of a transaction, with what it answered.
type call struct {
	make     func(x *store.Tx) string
	answered string
}

// recorded is a transaction with its calls.
type recorded struct {
	x     *store.Tx
	calls []call
	seq   int
}

func (r *recorded) do(make func(x *store.Tx) string) {
	r.calls = append(r.calls, call{make, make(r.x)})
}

// record makes a call of a transaction.
func (d *dice) record(r *recorded, of ruled) {
	switch d.below(4) {
	case 0:
		q := d.query(of)
		r.do(func(x *store.Tx) string { return toldAsk(x.Ask(q)) })
	case 1:
		f := d.fact(of)
		r.do(func(x *store.Tx) string { return toldErr("Remove", x.Remove(f)) })
	default:
		f := d.fact(of)
		r.do(func(x *store.Tx) string { return toldErr("Add", x.Add(f)) })
	}
}

// sideBySide runs transactions, up to four at a time, and answers those that were committed.
func (d *dice) sideBySide(db *store.DB, of ruled, steps int) ([]*recorded, int) {
	var open, done []*recorded
	conflicts := 0
	for range steps {
		if len(open) < 4 && d.below(3) == 0 || len(open) == 0 {
			open = append(open, &recorded{x: db.Begin()})
		}
		at := d.below(len(open))
		r := open[at]
		if d.below(8) > 0 {
			d.record(r, of)
			continue
		}
		open = append(open[:at:at], open[at+1:]...)
		seq, err := r.x.Commit()
		if err == api.OK {
			r.seq = seq
			done = append(done, r)
		} else {
			conflicts++
		}
	}
	return done, conflicts
}

func has(l []api.Fact, f api.Fact) bool {
	for _, g := range l {
		if showFacts([]api.Fact{g}) == showFacts([]api.Fact{f}) {
			return true
		}
	}
	return false
}

// wantTurns is P28.10's first sentence, and P28.11's second.
func wantTurns(t *testing.T, db *store.DB) {
	t.Helper()
	was, _ := db.At(0)
	all, _ := db.Commits(1)
	sigs, _, _ := types.Infer(db.Program())
	for i, c := range all {
		want := map[string]bool{}
		for _, f := range was {
			want[showFacts([]api.Fact{f})] = true
		}
		for _, f := range c.Added {
			if has(was, f) {
				t.Fatalf("commit %d adds %s, which was there", c.Seq, showFacts([]api.Fact{f}))
			}
			want[showFacts([]api.Fact{f})] = true
		}
		for _, f := range c.Removed {
			if !has(was, f) {
				t.Fatalf("commit %d removes %s, which was not there", c.Seq, showFacts([]api.Fact{f}))
			}
			delete(want, showFacts([]api.Fact{f}))
		}
		now, err := db.At(i + 1)
		if c.Seq != i+1 || err != api.OK || len(now) != len(want) || check.Input(db.Program(), now, atom("p")).Part == api.PartFacts || !types.Fits(now, sigs) || engine.Fit(db.Program(), now) != fine() {
			t.Fatalf("commit %d turns %s to %s", c.Seq, showFacts(was), showFacts(now))
		}
		for _, f := range now {
			if !want[showFacts([]api.Fact{f})] {
				t.Fatalf("commit %d turns %s to %s", c.Seq, showFacts(was), showFacts(now))
			}
		}
		was = now
	}
}

// P28.10, P28.11: each transaction by itself, begun right behind the commit ahead of its own, is answered the same and is committed as the same.
func TestOneBehindTheOther(t *testing.T) {
	d := dice(91)
	committed, conflicts := 0, 0
	for i := range 400 {
		of := programs()[i%len(programs())]
		rules := program(t, of.source)
		db := made(t, rules, d.first(of, rules))
		done, refused := d.sideBySide(db, of, 90)
		committed, conflicts = committed+len(done), conflicts+refused
		wantTurns(t, db)
		all, _ := db.Commits(1)
		for _, r := range done {
			ahead, _ := db.At(r.seq - 1)
			alone := made(t, rules, ahead)
			x := alone.Begin()
			for j, c := range r.calls {
				if got := c.make(x); got != c.answered {
					t.Fatalf("%s: commit %d, call %d: alone %s; side by side %s", of.source, r.seq, j, got, c.answered)
				}
			}
			wantCommit(t, x, 1, api.OK)
			same, want := all[r.seq-1], ""
			same.Seq, want = 1, showCommits(all[r.seq-1:r.seq])
			if wantCommits(t, alone, 1, showCommits([]api.Commit{same})); t.Failed() {
				t.Fatalf("%s: commit %d alone; side by side %s", of.source, r.seq, want)
			}
		}
	}
	if committed < 3000 || conflicts < 600 {
		t.Errorf("only %d commits and %d conflicts", committed, conflicts)
	}
}

// sight asks a transaction everything.
func sight(x *store.Tx, of ruled) string {
	out := ""
	for _, k := range append(of.preds, "x n", "x nn", "y t", "y ta", "z aaa") {
		name, columns, _ := strings.Cut(k, " ")
		out += toldAsk(x.Ask(atom(name, many(len(columns))...))) + "\n"
	}
	return out
}

// P28.11: what a transaction sees stays, whatever the others and the database are asked and told.
func TestWhatIsSeenStays(t *testing.T) {
	d := dice(17)
	for i := range 200 {
		of := programs()[i%len(programs())]
		rules := program(t, of.source)
		db := made(t, rules, d.first(of, rules))
		d.sideBySide(db, of, 20)
		x, quiet := &recorded{x: db.Begin()}, db.Begin()
		clean := sight(quiet, of)
		for range 6 {
			d.record(x, of)
		}
		before := sight(x.x, of)
		d.sideBySide(db, of, 40)
		db.Ask(d.query(of))
		db.At(0)
		if got := sight(x.x, of); got != before {
			t.Fatalf("%s: a transaction sees %s; it saw %s", of.source, got, before)
		}
		if got := sight(quiet, of); got != clean {
			t.Fatalf("%s: a transaction that has turned nothing sees %s; it saw %s", of.source, got, clean)
		}
	}
}

// R5: two databases share nothing, and the order of the first facts is nothing.
func TestTwoDatabases(t *testing.T) {
	l := facts(t, "stock(a, 1). stock(b, 5). x(1). x(2).")
	one := made(t, program(t, low), l)
	x, other := one.Begin(), made(t, program(t, low), []api.Fact{l[3], l[2], l[1], l[0], l[3]})
	adds(t, x, "stock(c, 1). x(3).")
	wantCommit(t, x, 1, api.OK)
	wantAll(t, other, []string{"stock(a, 1) stock(b, 5) x(1) x(2)"}, nil)
	answers(t, other, "low(X)?", "(a)")
	y := other.Begin()
	adds(t, y, "low(z).")
	wantCommit(t, y, 1, api.OK)
	wantAt(t, one, 1, "stock(a, 1) stock(b, 5) stock(c, 1) x(1) x(2) x(3)")
	answers(t, one, "low(X)?", "(a) (c)")
	answers(t, other, "low(X)?", "(a) (z)")
}

// raise adds one to a counter, and answers whether that was committed.
func raise(d *store.DB, name string) (bool, error) {
	x := d.Begin()
	l, r := x.Ask(atom("counter", api.Term{Val: text(name)}, v("N")))
	if r != fine() || len(l) != 1 {
		return false, fmt.Errorf("counter %s: %s, %v", name, showTuples(l), r)
	}
	was := fact("counter", l[0]...)
	now := fact("counter", l[0][0], num(l[0][1].Num+1))
	if x.Remove(was) != api.OK || x.Add(now) != api.OK {
		return false, fmt.Errorf("counter %s: turns refused", name)
	}
	_, err := x.Commit()
	return err == api.OK, nil
}

// P28.8, P28.10: many at a time: no step is lost, and none is counted twice.
func TestManyAtATime(t *testing.T) {
	d := of(t, "full(X) :- counter(X, N), N > 5.", "counter(a, 0). counter(b, 0).")
	var wait sync.WaitGroup
	raised := make([][2]int64, 8)
	faults := make([]error, 8)
	for i := range raised {
		wait.Add(1)
		go func() {
			defer wait.Done()
			for n := range 60 {
				ok, err := raise(d, []string{"a", "b"}[n%2])
				if err != nil {
					faults[i] = err
				}
				if ok {
					raised[i][n%2]++
				}
				watch(d, n)
			}
		}()
	}
	wait.Wait()
	var all [2]int64
	for i, n := range raised {
		if faults[i] != nil {
			t.Error(faults[i])
		}
		all[0], all[1] = all[0]+n[0], all[1]+n[1]
	}
	wantAt(t, d, d.Seq(), fmt.Sprintf("counter(a, %d) counter(b, %d)", all[0], all[1]))
	if d.Seq() != int(all[0]+all[1]) || d.Seq() < 60 {
		t.Errorf("%d commits; counted %v", d.Seq(), all)
	}
	wantTurns(t, d)
}

// watch makes the calls that turn nothing.
func watch(d *store.DB, n int) {
	d.Ask(atom("full", v("X")))
	d.At(d.Seq())
	d.Commits(1 + d.Seq()/2)
	d.Program()
	x := d.Begin()
	x.Add(nums("counter", int64(n), 1))
	x.Remove(nums("z", 1))
	x.Drop()
}

// P28.6 to P28.9: one transaction from many sides: it is committed once.
func TestOneFromManySides(t *testing.T) {
	for range 20 {
		d := of(t, low, "")
		x := d.Begin()
		var wait sync.WaitGroup
		seqs := make([]int, 8)
		for i := range seqs {
			wait.Add(1)
			go func() {
				defer wait.Done()
				for n := range 20 {
					x.Add(nums("stock", int64(i), int64(n)))
					x.Ask(atom("low", v("X")))
				}
				seqs[i], _ = x.Commit()
			}()
		}
		wait.Wait()
		sum := 0
		for _, n := range seqs {
			sum += n
		}
		if sum != 1 || d.Seq() != 1 || x.Drop() != api.ErrDone {
			t.Fatalf("committed as %v, %d commits", seqs, d.Seq())
		}
	}
}

// P28.9: one transaction from many sides: it is dropped once.
func TestDroppedFromManySides(t *testing.T) {
	for range 40 {
		d := of(t, low, "")
		x := d.Begin()
		var wait sync.WaitGroup
		ends := make([]api.Errno, 8)
		for i := range ends {
			wait.Add(1)
			go func() {
				defer wait.Done()
				x.Add(nums("stock", int64(i), 1))
				ends[i] = x.Drop()
			}()
		}
		wait.Wait()
		dropped := 0
		for _, err := range ends {
			if err == api.OK {
				dropped++
			}
		}
		if dropped != 1 || d.Seq() != 0 {
			t.Fatalf("dropped %v, %d commits", ends, d.Seq())
		}
	}
}
