package store_test

import (
	"fmt"
	"strings"
	"testing"

	"pedigree/api"
	"pedigree/store"
)

// row is so many facts of numbers, from one on.
func row(pred string, from, count int) []api.Fact {
	var out []api.Fact
	for i := range count {
		out = append(out, nums(pred, int64(from+i)))
	}
	return out
}

func addAll(t *testing.T, x *store.Tx, l []api.Fact) {
	t.Helper()
	for _, f := range l {
		if err := x.Add(f); err != api.OK {
			t.Fatalf("Add of %s = %d", showFacts([]api.Fact{f}), err)
		}
	}
}

// wantCount asks how many answers there are.
func wantCount(t *testing.T, x asked, pred string, want int) {
	t.Helper()
	if l, r := x.Ask(atom(pred, v("X"))); len(l) != want || r != fine() {
		t.Errorf("%s has %d answers, %v; want %d", pred, len(l), r, want)
	}
}

// P28.8, P28.1: as many facts as may be; one more is refused by the commit alone, and the transaction sees it all the same.
func TestAsManyFactsAsMayBe(t *testing.T) {
	d := made(t, program(t, "last(max(X)) :- e(X). odd(X) :- e(X), not f(X), X < 3."), row("e", 0, api.MaxFacts))
	x, y := d.Begin(), d.Begin()
	addAll(t, x, row("e", api.MaxFacts-2, 5))
	wantCount(t, x, "e", api.MaxFacts+3)
	wantAsk(t, x, atom("last", v("X")), fmt.Sprintf("(%d)", api.MaxFacts+2), fine())
	wantAsk(t, x, atom("e"), "", ofQuery(api.ErrArity))
	wantAsk(t, d, atom("last", v("X")), fmt.Sprintf("(%d)", api.MaxFacts-1), fine())
	wantCommit(t, x, 0, api.ErrSize)
	wantCommit(t, x, 0, api.ErrDone)
	if l, err := d.At(0); d.Seq() != 0 || len(l) != api.MaxFacts || err != api.OK {
		t.Errorf("behind what was refused: %d commits, %d facts, %d", d.Seq(), len(l), err)
	}
	wantCount(t, d, "e", api.MaxFacts)
	addAll(t, y, row("e", api.MaxFacts, 4))
	for _, f := range row("e", 1, 4) {
		wantErr(t, "Remove", y.Remove(f), api.OK)
	}
	wantAsk(t, y, atom("odd", v("X")), "(0)", fine())
	wantCommit(t, y, 1, api.OK)
	wantAsk(t, d, atom("odd", v("X")), "(0)", fine())
	if l, err := d.At(1); len(l) != api.MaxFacts || err != api.OK {
		t.Errorf("At(1): %d facts, %d", len(l), err)
	}
}

// P28.8: what counts is how many facts there would be now, not how many the transaction sees; a conflict is told ahead of too many.
func TestTooManyNow(t *testing.T) {
	d := made(t, program(t, "p(X) :- e(X). n(X) :- f(X)."), row("e", 0, api.MaxFacts-3))
	w, x, y, z := d.Begin(), d.Begin(), d.Begin(), d.Begin()
	addAll(t, w, row("f", 0, 2))
	wantCommit(t, w, 1, api.OK)
	addAll(t, x, row("e", api.MaxFacts, 2))
	wantCount(t, x, "e", api.MaxFacts-1)
	wantCommit(t, x, 0, api.ErrSize)
	wantCount(t, y, "f", 0)
	addAll(t, y, row("e", api.MaxFacts, 2))
	wantCommit(t, y, 0, api.ErrConflict)
	addAll(t, z, row("e", api.MaxFacts, 1))
	wantErr(t, "Remove", z.Remove(nums("f", 7)), api.OK)
	wantCommit(t, z, 2, api.OK)
	last := d.Begin()
	addAll(t, last, row("e", 5, 1))
	wantCommit(t, last, 3, api.OK)
	last = d.Begin()
	addAll(t, last, row("e", 2*api.MaxFacts, 1))
	wantCommit(t, last, 0, api.ErrSize)
	last = d.Begin()
	addAll(t, last, row("e", 2*api.MaxFacts, 1))
	wantErr(t, "Remove", last.Remove(nums("f", 0)), api.OK)
	wantCommit(t, last, 4, api.OK)
	wantCommits(t, d, 4, fmt.Sprintf("4: + e(%d) - f(0)", 2*api.MaxFacts))
}

// P28.8, P28.3: all facts come and go at once.
func TestAllComeAndGo(t *testing.T) {
	d := of(t, "none :- not e(_, _).", "")
	x := d.Begin()
	for i := range api.MaxFacts {
		if err := x.Add(nums("e", int64(i*40503%api.MaxFacts), 1)); err != api.OK {
			t.Fatalf("Add: %d", err)
		}
	}
	wantCommit(t, x, 1, api.OK)
	l, _ := d.At(1)
	if len(l) != api.MaxFacts || l[0].Args[0].Num != 0 || l[api.MaxFacts-1].Args[0].Num != api.MaxFacts-1 {
		t.Errorf("At(1): %d facts", len(l))
	}
	wantAsk(t, d, atom("none"), "", fine())
	x = d.Begin()
	for _, f := range l {
		if err := x.Remove(f); err != api.OK {
			t.Fatalf("Remove: %d", err)
		}
	}
	wantAsk(t, x, atom("none"), "()", fine())
	wantCommit(t, x, 2, api.OK)
	c, _ := d.Commits(2)
	if len(c) != 1 || len(c[0].Added) != 0 || len(c[0].Removed) != api.MaxFacts {
		t.Errorf("Commits(2): %d", len(c))
	}
	wantAt(t, d, 2, "")
}

// P28.7, P28.1: names as long, and facts as wide, as may be.
func TestNamesAndColumns(t *testing.T) {
	long := strings.Repeat("n", api.MaxName)
	d := of(t, "p(X) :- "+long+"(X, 1, 2, 3, 4, 5, 6, 7).", "")
	x := d.Begin()
	f := wide(long, api.MaxArity)
	wantErr(t, "Add of a wide fact", x.Add(f), api.OK)
	wantErr(t, "Add of a wider one", x.Add(wide(long, api.MaxArity+1)), api.ErrSize)
	wantErr(t, "Add of a wide one", x.Add(wide("w", api.MaxArity)), api.OK)
	wantErr(t, "Add of a longer name", x.Add(wide(long+"n", 1)), api.ErrSize)
	f.Args[0] = text(strings.Repeat("\x00", api.MaxText))
	wantErr(t, "Add of a long text", x.Add(f), api.OK)
	wantCount(t, x, "p", 2)
	wantAsk(t, x, atom("w", many(8)...), "(0, 1, 2, 3, 4, 5, 6, 7)", fine())
	wantAsk(t, x, atom("w", many(7)...), "", ofQuery(api.ErrArity))
	wantCommit(t, x, 1, api.OK)
	wantCount(t, d, "p", 2)
}

// P28.7: a program of as many rules as may be, with facts of all its predicates.
func TestAsManyRulesAsMayBe(t *testing.T) {
	source := ""
	for i := range api.MaxRules {
		source += fmt.Sprintf("p%d(X) :- e(X, Y), Y > %d.\n", i, i)
	}
	d := of(t, source, "e(a, 400).")
	x := d.Begin()
	for i := 0; i < api.MaxRules; i += 4 {
		name := fmt.Sprint("p", i)
		wantErr(t, "Add to "+name, x.Add(fact(name, text("b"))), api.OK)
		wantErr(t, "Add of two columns to "+name, x.Add(nums(name, 1, 2)), api.ErrArity)
		wantErr(t, "Add of a text", x.Add(fact("e", num(1), text(name))), api.ErrType)
	}
	wantAsk(t, x, atom("p396", v("X")), "(a) (b)", fine())
	wantAsk(t, x, atom("p400", v("X")), "(b)", fine())
	wantCommit(t, x, 1, api.OK)
	if l, _ := d.At(1); len(l) != api.MaxRules/4+1 {
		t.Errorf("At(1): %d facts", len(l))
	}
}
