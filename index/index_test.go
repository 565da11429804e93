package index_test

import (
	"math"
	"reflect"
	"slices"
	"testing"

	"pedigree/api"
	"pedigree/index"
	"pedigree/relation"
)

// row answers a row of these first columns.
func row(l ...api.Sym) api.Row {
	var x api.Row
	copy(x[:], l)
	return x
}

// full answers a row with one number in all columns.
func full(s api.Sym) api.Row {
	var x api.Row
	for i := range x {
		x[i] = s
	}
	return x
}

// over answers a relation of these rows, which are unlike each other, and a book over it.
func over(t *testing.T, arity int, l ...api.Row) (*relation.Relation, *index.Book) {
	t.Helper()
	r, e := relation.New(arity)
	if r == nil || e != api.OK {
		t.Fatalf("relation.New(%d) = %v, %d", arity, r != nil, e)
	}
	for _, x := range l {
		add(t, r, x)
	}
	return r, bookOver(t, r)
}

func bookOver(t *testing.T, r *relation.Relation) *index.Book {
	t.Helper()
	b, e := index.New(r)
	if b == nil || e != api.OK {
		t.Fatalf("New = %v, %d", b != nil, e)
	}
	return b
}

func add(t *testing.T, r *relation.Relation, x api.Row) {
	t.Helper()
	if ok, e := r.Add(x); !ok || e != api.OK {
		t.Fatalf("Add(%v) = %v, %d", x, ok, e)
	}
}

func remove(t *testing.T, r *relation.Relation, x api.Row) {
	t.Helper()
	if !r.Remove(x) {
		t.Fatalf("Remove(%v) = false", x)
	}
}

func wantLook(t *testing.T, b *index.Book, m api.Mask, x api.Row, want ...int) {
	t.Helper()
	if l, e := b.Look(m, x); !slices.Equal(l, want) || e != api.OK {
		t.Fatalf("Look(%b, %v) = %v, %d; want %v", m, x, l, e, want)
	}
}

func wantCount(t *testing.T, b *index.Book, m api.Mask, x api.Row, want int) {
	t.Helper()
	if n, e := b.Count(m, x); n != want || e != api.OK {
		t.Fatalf("Count(%b, %v) = %d, %d; want %d", m, x, n, e, want)
	}
}

func wantDistinct(t *testing.T, b *index.Book, m api.Mask, want int) {
	t.Helper()
	if n, e := b.Distinct(m); n != want || e != api.OK {
		t.Fatalf("Distinct(%b) = %d, %d; want %d", m, n, e, want)
	}
}

// wantError: each call that has an error answers this one, and nothing beside it.
func wantError(t *testing.T, b *index.Book, m api.Mask, x api.Row, want api.Errno) {
	t.Helper()
	if l, e := b.Look(m, x); len(l) != 0 || e != want {
		t.Fatalf("Look(%b, %v) = %v, %d; want error %d", m, x, l, e, want)
	}
	if n, e := b.Count(m, x); n != 0 || e != want {
		t.Fatalf("Count(%b, %v) = %d, %d; want error %d", m, x, n, e, want)
	}
	if n, e := b.Distinct(m); n != 0 || e != want {
		t.Fatalf("Distinct(%b) = %d, %d; want error %d", m, n, e, want)
	}
}

func wantMasks(t *testing.T, b *index.Book, want ...api.Mask) {
	t.Helper()
	if l := b.Masks(); !slices.Equal(l, want) {
		t.Fatalf("Masks() = %v, want %v", l, want)
	}
}

func wantSeen(t *testing.T, b *index.Book, m api.Mask, want int) {
	t.Helper()
	if n := b.Seen(m); n != want {
		t.Fatalf("Seen(%b) = %d, want %d", m, n, want)
	}
}

// wantRelation: the relation has these rows in this order, as its own calls tell it.
func wantRelation(t *testing.T, r *relation.Relation, arity, gone int, l ...api.Row) {
	t.Helper()
	if r.Arity() != arity || r.Len() != len(l) || r.Gone() != gone {
		t.Fatalf("Arity() %d, Len() %d, Gone() %d; want %d, %d, %d", r.Arity(), r.Len(), r.Gone(), arity, len(l), gone)
	}
	for i, x := range r.Range(0, r.Len()) {
		if x != l[i] || !r.Has(x) {
			t.Fatalf("the row %d is %v, want %v", i, x, l[i])
		}
	}
}

// same: are two rows the same in the columns of the mask?
func same(m api.Mask, x, y api.Row) bool {
	for c := range x {
		if m>>c&1 == 1 && x[c] != y[c] {
			return false
		}
	}
	return true
}

// chosen answers the numbers of the rows of l whose key is that of x, by going through all of them.
func chosen(l []api.Row, m api.Mask, x api.Row) []int {
	var out []int
	for i, y := range l {
		if same(m, x, y) {
			out = append(out, i)
		}
	}
	return out
}

// unlike answers, for each key of the rows of l, the first row that has it.
func unlike(l []api.Row, m api.Mask) []api.Row {
	var out []api.Row
	for _, x := range l {
		if !slices.ContainsFunc(out, func(y api.Row) bool { return same(m, x, y) }) {
			out = append(out, x)
		}
	}
	return out
}

// wantFound: all three calls answer of the rows of l.
func wantFound(t *testing.T, b *index.Book, l []api.Row, m api.Mask, x api.Row) {
	t.Helper()
	want := chosen(l, m, x)
	wantLook(t, b, m, x, want...)
	wantCount(t, b, m, x, len(want))
	wantDistinct(t, b, m, len(unlike(l, m)))
}

// upTo answers the numbers below n.
func upTo(n int) []int {
	var out []int
	for i := range n {
		out = append(out, i)
	}
	return out
}

// P11.1, R3: a relation that is not there has no book; any other has one that was asked nothing.
func TestNew(t *testing.T) {
	for _, r := range []*relation.Relation{nil, {}, new(relation.Relation), (*relation.Relation)(nil).Clone()} {
		if b, e := index.New(r); b != nil || e != api.ErrNil {
			t.Errorf("New of a relation that is not there = %v, %d", b != nil, e)
		}
	}
	for arity := range api.MaxWide + 1 {
		for _, l := range [][]api.Row{nil, {{}}} {
			r, b := over(t, arity, l...)
			wantMasks(t, b)
			for bit := range 32 {
				wantSeen(t, b, 1<<bit, 0)
			}
			wantSeen(t, b, 0, 0)
			wantSeen(t, b, math.MaxUint32, 0)
			wantRelation(t, r, arity, 0, l...)
		}
	}
}

// P11.1: a book may be made over a relation from which rows are gone, and over a Clone.
func TestNewBehindTurns(t *testing.T) {
	r, _ := over(t, 2, row(1, 2), row(1, 3), row(4, 2))
	remove(t, r, row(1, 2))
	c := r.Clone()
	remove(t, c, row(4, 2))
	for _, b := range []*index.Book{bookOver(t, r), bookOver(t, r)} {
		wantLook(t, b, 1, row(1), 0)
		wantLook(t, b, 0, row(), 0, 1)
	}
	wantLook(t, bookOver(t, c), 0, row(), 0)
}

// R3: a nil pointer and a zero struct, under every call, any mask and any row.
func TestBookThatIsNotThere(t *testing.T) {
	for _, b := range []*index.Book{nil, {}, new(index.Book)} {
		for _, m := range []api.Mask{0, 1, 3, 1 << 23, 1 << 24, 1 << 31, math.MaxUint32} {
			for _, x := range []api.Row{{}, row(1, 2), row(-1), full(math.MaxInt32), full(math.MinInt32)} {
				wantError(t, b, m, x, api.ErrNil)
			}
			wantSeen(t, b, m, 0)
			wantMasks(t, b)
		}
	}
}

// P11.2, P11.3, P11.4: in relations of each arity a bit from the arity on is ErrMask, alone and among columns, and is no asking.
func TestMasksThatAreNone(t *testing.T) {
	for arity := range api.MaxWide + 1 {
		all := api.Mask(1)<<arity - 1
		r, b := over(t, arity, api.Row{})
		for range 2 {
			for bit := arity; bit < 32; bit++ {
				for _, m := range []api.Mask{1 << bit, 1<<bit | all, math.MaxUint32 << bit, math.MaxUint32} {
					wantError(t, b, m, api.Row{}, api.ErrMask)
					wantSeen(t, b, m, 0)
				}
			}
			wantRelation(t, r, arity, 0, api.Row{})
		}
		wantMasks(t, b)
		wantLook(t, b, all, api.Row{}, 0)
		wantError(t, b, all+1, api.Row{}, api.ErrMask)
		wantMasks(t, b, all)
		wantSeen(t, b, all, 1)
	}
}

// P11.4, R2: a mask that is none leaves what was asked before as it was, though the relation has turned since.
func TestErrorIsNoAsking(t *testing.T) {
	r, b := over(t, 1, row(1), row(2))
	wantCount(t, b, 1, row(1), 1)
	add(t, r, row(3))
	wantError(t, b, 2, row(1), api.ErrMask)
	wantError(t, b, 3, row(1), api.ErrMask)
	wantMasks(t, b, 1)
	wantSeen(t, b, 1, 2)
	wantSeen(t, b, 2, 0)
	wantSeen(t, b, 3, 0)
}

// P11.1 to P11.4: the rows of the chapter's section 'Examples', one behind the other.
func TestExamples(t *testing.T) {
	r, b := over(t, 2, row(1, 2), row(1, 3), row(4, 2))
	wantLook(t, b, 1, row(1, 9), 0, 1)
	wantLook(t, b, 2, row(9, 2), 0, 2)
	wantLook(t, b, 3, row(4, 2), 2)
	wantLook(t, b, 3, row(4, 3))
	wantLook(t, b, 0, row(9, 9), 0, 1, 2)
	wantCount(t, b, 1, row(1, 0), 2)
	wantCount(t, b, 2, row(0, -1), 0)
	wantDistinct(t, b, 1, 2)
	wantDistinct(t, b, 3, 3)
	wantDistinct(t, b, 0, 1)
	wantError(t, b, 4, row(), api.ErrMask)
	wantMasks(t, b, 0, 1, 2, 3)
	wantSeen(t, b, 1, 3)
	wantSeen(t, b, 4, 0)
	add(t, r, row(1, 5))
	wantSeen(t, b, 1, 3)
	wantLook(t, b, 1, row(1, 0), 0, 1, 3)
	wantSeen(t, b, 1, 4)
	wantSeen(t, b, 2, 3)
	remove(t, r, row(1, 2))
	wantSeen(t, b, 1, 4)
	wantLook(t, b, 1, row(1, 0), 0, 2)
	wantSeen(t, b, 1, 3)
	wantLook(t, b, 2, row(0, 2), 1)
	wantDistinct(t, b, 2, 3)
}

// P11.1: a book has the chapter's calls and no others, so none by which its relation could be changed.
func TestCallsOfABook(t *testing.T) {
	var names []string
	for m := range reflect.TypeFor[*index.Book]().Methods() {
		names = append(names, m.Name)
	}
	slices.Sort(names)
	if want := []string{"Count", "Distinct", "Look", "Masks", "Seen"}; !slices.Equal(names, want) {
		t.Errorf("a book has the calls %v, want %v", names, want)
	}
}
