package index_test

import (
	"iter"
	"math"
	"slices"
	"testing"

	"pedigree/api"
	"pedigree/index"
	"pedigree/relation"
)

// dice answers numbers below n, the same ones in every run.
type dice uint64

func (d *dice) below(n int) int {
	*d = *d*6364136223846793005 + 1442695040888963407
	return int(uint64(*d)>>33) % n
}

// row answers a row of few numbers, so that keys come again.
func (d *dice) row(arity int) api.Row {
	var x api.Row
	for i := range arity {
		x[i] = api.Sym(d.below(3))
	}
	return x
}

// wild answers a row to ask for: any numbers may stand in it, anywhere.
func (d *dice) wild(arity int) api.Row {
	x := d.row(arity)
	if d.below(3) == 0 {
		for range 4 {
			x[d.below(api.MaxWide)] = []api.Sym{-1, math.MinInt32, 1, math.MaxInt32}[d.below(4)]
		}
	}
	return x
}

// mask answers a mask of few columns or of many; at times it is none of the arity.
func (d *dice) mask(arity int) api.Mask {
	m := api.Mask(d.below(1<<24)) & (1<<arity - 1)
	switch d.below(12) {
	case 0:
		return m | 1<<(arity+d.below(32-arity))
	case 1, 2, 3:
		return m & 7
	case 4:
		return 1<<arity - 1
	}
	return m
}

// slow is a relation with books over it as the chapter says them, by lists alone.
type slow struct {
	arity, gone int
	has         []api.Row
	seen        []map[api.Mask]int // of each book, by the masks that it was asked
}

// shelf is a relation, books over it, and the slow ones that were handed the same calls.
type shelf struct {
	r *relation.Relation
	b []*index.Book
	s *slow
}

func newShelf(t *testing.T, arity int) *shelf {
	t.Helper()
	r, b := over(t, arity)
	return &shelf{r, []*index.Book{b, bookOver(t, r)}, &slow{arity: arity, seen: []map[api.Mask]int{{}, {}}}}
}

// turn lets rows come and go by the relation's own calls.
func (h *shelf) turn(t *testing.T, d *dice) string {
	t.Helper()
	x := d.row(h.s.arity)
	if len(h.s.has) > 0 && d.below(2) == 0 {
		x = h.s.has[d.below(len(h.s.has))]
	}
	i := slices.Index(h.s.has, x)
	if d.below(3) == 0 {
		if h.r.Remove(x) != (i >= 0) {
			t.Fatalf("Remove(%v) of %v", x, h.s.has)
		}
		if i < 0 {
			return "not removed"
		}
		h.s.has = slices.Concat(h.s.has[:i], h.s.has[i+1:])
		h.s.gone++
		return "removed"
	}
	if ok, e := h.r.Add(x); ok != (i < 0) || e != api.OK {
		t.Fatalf("Add(%v) = %v, %d of %v", x, ok, e, h.s.has)
	}
	if i >= 0 {
		return "not added"
	}
	h.s.has = append(slices.Clone(h.s.has), x)
	return "added"
}

// ask hands one call to one book, and answers what came of it.
func (h *shelf) ask(t *testing.T, d *dice) string {
	t.Helper()
	which, m, x := d.below(len(h.b)), d.mask(h.s.arity), d.wild(h.s.arity)
	if m>>h.s.arity != 0 {
		wantError(t, h.b[which], m, x, api.ErrMask)
		return "no mask"
	}
	askings()[d.below(3)](t, h.b[which], h.s.has, m, x)
	h.s.seen[which][m] = len(h.s.has)
	if len(chosen(h.s.has, m, x)) == 0 {
		return "none found"
	}
	return "found"
}

// look holds what asks nothing against the slow ones: the relation, and each book's Masks and Seen.
func (h *shelf) look(t *testing.T) {
	t.Helper()
	wantRelation(t, h.r, h.s.arity, h.s.gone, h.s.has...)
	for i, b := range h.b {
		var masks []api.Mask
		for m, n := range h.s.seen[i] {
			masks = append(masks, m)
			wantSeen(t, b, m, n)
		}
		slices.Sort(masks)
		wantMasks(t, b, masks...)
		for c := range 32 {
			wantSeen(t, b, 1<<c, h.s.seen[i][1<<c])
		}
	}
}

// P11.1 to P11.4, R5: any calls in any order over several relations with two books each are answered as the chapter says; none knows of another.
func TestAnyCalls(t *testing.T) {
	count := map[string]int{}
	for seed := range 400 {
		d := dice(seed)
		var all []*shelf
		for _, arity := range []int{seed % 4, 2, 3, api.MaxWide - seed%3} {
			all = append(all, newShelf(t, arity))
		}
		for range 150 {
			h := all[d.below(len(all))]
			for range d.below(4) {
				count[h.turn(t, &d)]++
			}
			count[h.ask(t, &d)]++
			h.look(t)
		}
		for _, h := range all {
			h.look(t)
			h.follow(t, &d)
		}
	}
	for _, what := range []string{"added", "not added", "removed", "not removed", "found", "none found", "no mask"} {
		if count[what] < 1000 {
			t.Errorf("%s: %d times", what, count[what])
		}
	}
}

// follow holds the laws of P11.5 to a shelf as it is now.
func (h *shelf) follow(t *testing.T, d *dice) {
	t.Helper()
	b := h.b[d.below(len(h.b))]
	for range 4 {
		m := d.mask(h.s.arity) & (1<<h.s.arity - 1)
		more := m | d.mask(h.s.arity)&(1<<h.s.arity-1)
		lookAnew(t, b, bookOver(t, h.r), m, d.wild(h.s.arity))
		sum := 0
		for _, x := range unlike(h.s.has, m) {
			n, _ := b.Count(m, x)
			sum += n
		}
		if sum != len(h.s.has) {
			t.Fatalf("Count(%b) comes to %d over all keys of %d rows", m, sum, len(h.s.has))
		}
		for i, x := range h.s.has {
			few, _ := b.Look(more, x)
			many, _ := b.Look(m, x)
			if !slices.Contains(few, i) || !slices.IsSorted(many) {
				t.Fatalf("the row %d: Look(%b, %v) = %v", i, more, x, few)
			}
			for _, j := range few {
				if !slices.Contains(many, j) {
					t.Fatalf("Look(%b, %v) tells %d, Look(%b) does not", more, x, j, m)
				}
			}
		}
		fewer, _ := b.Distinct(m)
		keys, _ := b.Distinct(more)
		if keys < fewer {
			t.Fatalf("%d keys under %b, %d under %b", fewer, m, keys, more)
		}
	}
}

// lookAnew holds a book against one that was made just now.
func lookAnew(t *testing.T, b, anew *index.Book, m api.Mask, x api.Row) {
	t.Helper()
	l, e := b.Look(m, x)
	k, f := anew.Look(m, x)
	if !slices.Equal(l, k) || e != f {
		t.Fatalf("Look(%b, %v) = %v, %d; of a new book %v, %d", m, x, l, e, k, f)
	}
	n, _ := anew.Count(m, x)
	wantCount(t, b, m, x, n)
	n, _ = anew.Distinct(m)
	wantDistinct(t, b, m, n)
}

// P11.1: whatever a book is asked, a ranging over its relation that has begun goes on, and what is told behind it is the same.
func TestBookLeavesRangingsAlone(t *testing.T) {
	l := cube(2)
	r, b := over(t, 3, l...)
	next, stop := iter.Pull2(r.Range(0, len(l)))
	defer stop()
	for i, x := range l {
		wantFound(t, b, l, api.Mask(i), x)
		if j, y, ok := next(); j != i || y != x || !ok {
			t.Fatalf("the ranging tells %d, %v, %v; want %d, %v", j, y, ok, i, x)
		}
	}
	wantRelation(t, r, 3, 0, l...)
}

// P11.2: a book may be asked while one ranges over its relation and rows come and go meanwhile.
func TestAskedWithinARanging(t *testing.T) {
	w := &turned{}
	var b *index.Book
	w.r, b = over(t, 3)
	w.grow(t, 8)
	for i, x := range w.r.Range(0, 8) {
		wantFound(t, b, w.l, 1, x)
		w.shrink(t, i, 1)
		wantFound(t, b, w.l, 5, x)
		w.grow(t, i%3)
		wantFound(t, b, w.l, 1, x)
	}
}

// P11.1, R5: a relation and its Clone turn by themselves, and their books with them.
func TestBooksOfAClone(t *testing.T) {
	r, b := over(t, 1, row(1), row(2))
	wantLook(t, b, 0, row(), 0, 1)
	c := r.Clone()
	o := bookOver(t, c)
	wantMasks(t, o)
	remove(t, c, row(1))
	add(t, c, row(3))
	add(t, c, row(4))
	wantLook(t, o, 1, row(2), 0)
	wantLook(t, o, 0, row(), 0, 1, 2)
	wantLook(t, b, 1, row(2), 1)
	wantLook(t, b, 0, row(), 0, 1)
	wantRelation(t, r, 1, 0, row(1), row(2))
	wantSeen(t, o, 0, 3)
	wantSeen(t, b, 0, 2)
}

// P11.2: rows are found without going through all of them, and those that come are taken in without taking in all anew: otherwise this takes minutes.
func TestManyRows(t *testing.T) {
	const many = 100000
	r, b := over(t, 3, row(many))
	wantDistinct(t, b, 1, 1)
	remove(t, r, row(many))
	for i := range api.Sym(many) {
		add(t, r, row(i, i/4, i%2))
		wantLook(t, b, 1, row(i), int(i))
		wantCount(t, b, 2, row(0, i/4), int(i%4)+1)
		wantCount(t, b, 4, row(0, 0, i%2), int(i)/2+1)
		wantDistinct(t, b, 6, int(i/4)*2+min(int(i%4)+1, 2))
	}
	for i := range api.Sym(many / 4) {
		wantLook(t, b, 2, row(-1, i), int(i)*4, int(i)*4+1, int(i)*4+2, int(i)*4+3)
		wantLook(t, b, 6, row(-1, i, 1), int(i)*4+1, int(i)*4+3)
	}
	remove(t, r, row(many/2, many/8, 0))
	wantLook(t, b, 2, row(0, many/8), many/2, many/2+1, many/2+2)
	wantLook(t, b, 0, row(), upTo(many-1)...)
	wantDistinct(t, b, 1, many-1)
	wantSeen(t, b, 6, many)
	wantSeen(t, b, 2, many-1)
}
