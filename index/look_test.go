package index_test

import (
	"math"
	"slices"
	"testing"

	"pedigree/api"
	"pedigree/index"
	"pedigree/relation"
)

// cube answers all rows of three columns of numbers below n.
func cube(n int) []api.Row {
	var out []api.Row
	for i := range n * n * n {
		out = append(out, row(api.Sym(i%n), api.Sym(i/n%n), api.Sym(i/n/n)))
	}
	return out
}

// P11.2, P11.3: every mask, under rows that are there and others; what stands outside the mask is not looked at.
func TestEveryMask(t *testing.T) {
	l := slices.DeleteFunc(cube(3), func(x api.Row) bool { return (x[0]+2*x[1]+x[2])%4 == 1 })
	_, b := over(t, 3, l...)
	for m := range api.Mask(8) {
		for _, x := range cube(4) {
			wantFound(t, b, l, m, x)
			for _, s := range []api.Sym{0, 1, -1, math.MinInt32, math.MaxInt32} {
				y := full(s)
				for c := range 3 {
					if m>>c&1 == 1 {
						y[c] = x[c]
					}
				}
				wantLook(t, b, m, y, chosen(l, m, x)...)
				wantCount(t, b, m, y, len(chosen(l, m, x)))
			}
		}
	}
}

// P11.2: no row has a number below 0 in a column, so none is told for one in a column of the mask; outside it it is not looked at.
func TestNumbersBelowZero(t *testing.T) {
	_, b := over(t, 2, row(0, 0), row(1, 0), row(1, math.MaxInt32))
	for _, s := range []api.Sym{-1, -2, math.MinInt32} {
		wantLook(t, b, 1, row(s, 0))
		wantCount(t, b, 1, row(s, 0), 0)
		wantLook(t, b, 2, row(1, s))
		wantLook(t, b, 3, row(s, 0))
		wantLook(t, b, 3, row(1, s))
		wantCount(t, b, 3, row(s, s), 0)
		wantLook(t, b, 1, row(1, s), 1, 2)
		wantLook(t, b, 2, row(s, 0), 0, 1)
		wantCount(t, b, 2, row(s, math.MaxInt32, s), 1)
		wantLook(t, b, 0, full(s), 0, 1, 2)
	}
	wantDistinct(t, b, 1, 2)
	wantDistinct(t, b, 2, 2)
	wantDistinct(t, b, 3, 3)
}

// P11.2, P11.3: a relation of arity 0, with and without its one row.
func TestNoColumns(t *testing.T) {
	r, b := over(t, 0)
	for _, x := range []api.Row{{}, row(5), full(-1)} {
		for range 2 {
			wantLook(t, b, 0, x)
			wantCount(t, b, 0, x, 0)
			wantDistinct(t, b, 0, 0)
			wantMasks(t, b, 0)
			add(t, r, row())
			wantSeen(t, b, 0, 0)
			wantLook(t, b, 0, x, 0)
			wantCount(t, b, 0, x, 1)
			wantDistinct(t, b, 0, 1)
			wantSeen(t, b, 0, 1)
			remove(t, r, row())
			wantSeen(t, b, 0, 1)
		}
		wantError(t, b, 1, x, api.ErrMask)
	}
}

// P11.2, P11.3: a relation of arity MaxWide: each column has a bit of its own, and all may stand in one mask.
func TestAllColumns(t *testing.T) {
	const all = api.Mask(1)<<api.MaxWide - 1
	l := []api.Row{{}, full(7)}
	for i := range api.MaxWide {
		x := full(7)
		x[i] = math.MaxInt32
		l = append(l, x)
	}
	_, b := over(t, api.MaxWide, l...)
	for i := range api.MaxWide {
		for _, m := range []api.Mask{1 << i, all &^ (1 << i), all &^ (1<<i - 1), 1<<i - 1, all, 1 | 1<<i} {
			for _, x := range l {
				wantFound(t, b, l, m, x)
			}
			wantFound(t, b, l, m, full(3))
			wantFound(t, b, l, m, full(-7))
		}
	}
	for i, x := range l {
		wantLook(t, b, all, x, i)
	}
	wantDistinct(t, b, all, len(l))
	wantError(t, b, all+1, api.Row{}, api.ErrMask)
	wantError(t, b, all|1<<31, api.Row{}, api.ErrMask)
}

// P11.2, P11.3: a relation without rows has no keys, under whichever mask.
func TestNoRows(t *testing.T) {
	for arity := range api.MaxWide + 1 {
		r, b := over(t, arity)
		for c := range arity + 1 {
			m := api.Mask(1)<<c - 1
			wantFound(t, b, nil, m, api.Row{})
			wantSeen(t, b, m, 0)
		}
		if l := b.Masks(); len(l) != arity+1 {
			t.Fatalf("Masks() = %v behind %d masks", l, arity+1)
		}
		wantRelation(t, r, arity, 0)
	}
}

// asking is one of the three calls that ask a mask, held against the rows of l.
type asking func(t *testing.T, b *index.Book, l []api.Row, m api.Mask, x api.Row)

func askings() []asking {
	return []asking{
		func(t *testing.T, b *index.Book, l []api.Row, m api.Mask, x api.Row) {
			t.Helper()
			wantLook(t, b, m, x, chosen(l, m, x)...)
		},
		func(t *testing.T, b *index.Book, l []api.Row, m api.Mask, x api.Row) {
			t.Helper()
			wantCount(t, b, m, x, len(chosen(l, m, x)))
		},
		func(t *testing.T, b *index.Book, l []api.Row, m api.Mask, x api.Row) {
			t.Helper()
			wantDistinct(t, b, m, len(unlike(l, m)))
		},
	}
}

// turned is a relation with a list of its rows, turned together.
type turned struct {
	r    *relation.Relation
	l    []api.Row
	next api.Sym
}

func (w *turned) grow(t *testing.T, n int) {
	t.Helper()
	for range n {
		w.next++
		x := row(w.next%3, w.next, w.next%2)
		add(t, w.r, x)
		w.l = append(w.l, x)
	}
}

// shrink takes n rows out, from one place on.
func (w *turned) shrink(t *testing.T, at, n int) {
	t.Helper()
	for range n {
		i := at % len(w.l)
		remove(t, w.r, w.l[i])
		w.l = slices.Delete(w.l, i, i+1)
	}
}

// P11.2, P11.3, P11.4: through growing, shrinking and both (as many coming as going, more, fewer), each call by itself answers of the rows that are there now.
func TestTurnsBetweenAskings(t *testing.T) {
	for _, ask := range askings() {
		for at := range 6 {
			for coming := range 5 {
				for going := range 5 {
					turnBetween(t, ask, func(w *turned) { w.grow(t, coming); w.shrink(t, at, going) })
					turnBetween(t, ask, func(w *turned) { w.shrink(t, at, going); w.grow(t, coming) })
				}
			}
		}
	}
}

// turnBetween asks every mask ahead of a turn and behind it.
func turnBetween(t *testing.T, ask asking, turn func(w *turned)) {
	t.Helper()
	w := &turned{}
	var b *index.Book
	w.r, b = over(t, 3)
	w.grow(t, 6)
	old := slices.Clone(w.l)
	for m := range api.Mask(8) {
		ask(t, b, w.l, m, old[m%6])
	}
	turn(w)
	for m := range api.Mask(8) {
		wantSeen(t, b, m, 6)
		ask(t, b, w.l, m, old[m%6])
		wantSeen(t, b, m, len(w.l))
		for _, x := range append(old, w.l...) {
			wantFound(t, b, w.l, m, x)
		}
	}
}

// P11.2: a row that was removed and put back has another number, though the relation has the same rows.
func TestRowPutBack(t *testing.T) {
	for _, ask := range askings() {
		l := []api.Row{row(1, 2), row(1, 3), row(4, 2)}
		r, b := over(t, 2, l...)
		ask(t, b, l, 1, row(1))
		ask(t, b, l, 0, row())
		remove(t, r, row(1, 2))
		add(t, r, row(1, 2))
		l = []api.Row{row(1, 3), row(4, 2), row(1, 2)}
		for m := range api.Mask(4) {
			for _, x := range l {
				ask(t, b, l, m, x)
			}
		}
		wantLook(t, b, 1, row(1), 0, 2)
		wantLook(t, b, 3, row(1, 2), 2)
	}
}

// P11.2, P11.3: all rows go, and others come.
func TestEmptied(t *testing.T) {
	w := &turned{}
	var b *index.Book
	w.r, b = over(t, 3)
	for range 5 {
		w.grow(t, 5)
		wantFound(t, b, w.l, 1, row(1))
		wantFound(t, b, w.l, 2, w.l[3])
		old := w.l[3]
		w.shrink(t, 0, 5)
		wantFound(t, b, nil, 1, row(1))
		wantFound(t, b, nil, 2, old)
		wantFound(t, b, nil, 0, row())
		wantSeen(t, b, 1, 0)
		wantMasks(t, b, 0, 1, 2)
	}
}

// P11.4: each mask that was asked once, rising, by whichever call and in whatever order; Seen of one does not turn by another's asking.
func TestMasksAndSeen(t *testing.T) {
	for _, ask := range askings() {
		w := &turned{}
		var b *index.Book
		w.r, b = over(t, api.MaxWide)
		var asked []api.Mask
		seen := map[api.Mask]int{}
		for i := range 60 {
			m := api.Mask(1)<<(i*7%api.MaxWide) | api.Mask(i%2)
			w.grow(t, 1+i%2)
			if i%5 == 4 {
				w.shrink(t, i, 3)
			}
			for k, n := range seen {
				wantSeen(t, b, k, n)
			}
			ask(t, b, w.l, m, row())
			seen[m] = len(w.l)
			if !slices.Contains(asked, m) {
				asked = append(asked, m)
				slices.Sort(asked)
			}
			wantMasks(t, b, asked...)
			for k, n := range seen {
				wantSeen(t, b, k, n)
			}
			wantSeen(t, b, 1<<24, 0)
			wantSeen(t, b, m|1<<31, 0)
			wantSeen(t, b, 6, 0)
		}
	}
}

// P11.4: Masks and Seen ask nothing themselves.
func TestMasksAndSeenAreNoAskings(t *testing.T) {
	r, b := over(t, 2, row(1, 2))
	for range 3 {
		wantSeen(t, b, 1, 0)
		wantSeen(t, b, 7, 0)
		wantMasks(t, b)
	}
	wantCount(t, b, 2, row(0, 2), 1)
	add(t, r, row(2, 2))
	for range 3 {
		wantSeen(t, b, 2, 1)
		wantSeen(t, b, 1, 0)
		wantMasks(t, b, 2)
	}
}

// R4: what Look tells is memory of its own, spare room too: no other answer and nothing of the book turns by it.
func TestLookTellsItsOwnMemory(t *testing.T) {
	for n := 1; n < 40; n++ {
		w := &turned{}
		var b *index.Book
		w.r, b = over(t, 3)
		w.grow(t, n)
		first, _ := b.Look(0, row())
		second, _ := b.Look(0, row())
		_ = append(first[:0], slices.Repeat([]int{-9}, cap(first))...)
		if !slices.Equal(second, upTo(n)) {
			t.Fatalf("two answers share memory: %v", second)
		}
		wantLook(t, b, 0, row(), upTo(n)...)
		w.grow(t, 3)
		wantLook(t, b, 0, row(), upTo(n+3)...)
		_ = append(second[:n], slices.Repeat([]int{-9}, cap(second)-n)...)
		clear(first[:cap(first)])
		wantLook(t, b, 0, row(), upTo(n+3)...)
		if !slices.Equal(second, upTo(n)) {
			t.Fatalf("an answer turned by what came later: %v", second)
		}
		third, _ := b.Look(0, row())
		w.shrink(t, 0, 1)
		wantLook(t, b, 0, row(), upTo(n+2)...)
		if !slices.Equal(third, upTo(n+3)) {
			t.Fatalf("an answer turned by what went later: %v", third)
		}
	}
}

// R4: what Masks tells is memory of its own, spare room too.
func TestMasksTellsItsOwnMemory(t *testing.T) {
	_, b := over(t, 6)
	var want []api.Mask
	for m := range api.Mask(64) {
		wantDistinct(t, b, m, 0)
		want = append(want, m)
		first, second := b.Masks(), b.Masks()
		_ = append(first[:0], slices.Repeat([]api.Mask{77}, cap(first))...)
		if !slices.Equal(second, want) {
			t.Fatalf("two answers share memory: %v", second)
		}
		wantMasks(t, b, want...)
	}
}
