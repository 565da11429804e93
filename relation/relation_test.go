package relation_test

import (
	"cmp"
	"math"
	"slices"
	"testing"

	"pedigree/api"
	"pedigree/relation"
)

// row answers a row of these first columns.
func row(l ...api.Sym) api.Row {
	var x api.Row
	copy(x[:], l)
	return x
}

// column answers a row with 0 in all columns but one.
func column(i int, s api.Sym) api.Row {
	var x api.Row
	x[i] = s
	return x
}

// rows answers n rows of two columns, unlike each other, in no order.
func rows(n int) []api.Row {
	var out []api.Row
	for i := range n {
		out = append(out, row(api.Sym(i*41%n), api.Sym(i%3)))
	}
	return out
}

// relationOf answers a relation to which the rows of l were added, which are unlike each other.
func relationOf(t *testing.T, arity int, l ...api.Row) *relation.Relation {
	t.Helper()
	r, e := relation.New(arity)
	if r == nil || e != api.OK {
		t.Fatalf("New(%d) = %v, %d", arity, r != nil, e)
	}
	for _, x := range l {
		wantAdd(t, r, x, true, api.OK)
	}
	return r
}

func wantAdd(t *testing.T, r *relation.Relation, x api.Row, want bool, code api.Errno) {
	t.Helper()
	if ok, e := r.Add(x); ok != want || e != code {
		t.Fatalf("Add(%v) = %v, %d; want %v, %d", x, ok, e, want, code)
	}
}

func wantRemove(t *testing.T, r *relation.Relation, x api.Row, want bool) {
	t.Helper()
	if ok := r.Remove(x); ok != want {
		t.Fatalf("Remove(%v) = %v, want %v", x, ok, want)
	}
}

func wantHas(t *testing.T, r *relation.Relation, x api.Row, want bool) {
	t.Helper()
	if ok := r.Has(x); ok != want {
		t.Fatalf("Has(%v) = %v, want %v", x, ok, want)
	}
}

func wantAt(t *testing.T, r *relation.Relation, i int, want api.Row, code api.Errno) {
	t.Helper()
	if x, e := r.At(i); x != want || e != code {
		t.Fatalf("At(%d) = %v, %d; want %v, %d", i, x, e, want, code)
	}
}

func wantSelect(t *testing.T, r *relation.Relation, m api.Mask, x api.Row, want ...int) {
	t.Helper()
	if l := r.Select(m, x); !slices.Equal(l, want) {
		t.Fatalf("Select(%b, %v) = %v, want %v", m, x, l, want)
	}
}

// wantRange: a ranging tells these rows, which have the numbers from first on.
func wantRange(t *testing.T, r *relation.Relation, from, to, first int, want ...api.Row) {
	t.Helper()
	at := 0
	for i, x := range r.Range(from, to) {
		if at == len(want) || i != first+at || x != want[at] {
			t.Fatalf("Range(%d, %d) tells %d with %v at %d, want %d rows from the number %d on", from, to, i, x, at, len(want), first)
		}
		at++
	}
	if at != len(want) {
		t.Fatalf("Range(%d, %d) tells %d rows, want %d", from, to, at, len(want))
	}
}

// inOrder sorts rows as the chapter says it: by the first column in which they differ.
func inOrder(l []api.Row) []api.Row {
	return slices.SortedFunc(slices.Values(l), func(a, b api.Row) int {
		for i := range a {
			if a[i] != b[i] {
				return cmp.Compare(a[i], b[i])
			}
		}
		return 0
	})
}

// upTo answers the numbers below n.
func upTo(n int) []int {
	var out []int
	for i := range n {
		out = append(out, i)
	}
	return out
}

// wantRelation: by all its calls the relation has these rows in this order, and none else.
func wantRelation(t *testing.T, r *relation.Relation, arity, gone int, l ...api.Row) {
	t.Helper()
	if r.Arity() != arity || r.Len() != len(l) || r.Gone() != gone {
		t.Fatalf("Arity() %d, Len() %d, Gone() %d; want %d, %d, %d", r.Arity(), r.Len(), r.Gone(), arity, len(l), gone)
	}
	for i, x := range l {
		wantAt(t, r, i, x, api.OK)
		wantHas(t, r, x, true)
		wantSelect(t, r, math.MaxUint32, x, i)
	}
	for _, i := range []int{math.MinInt, -1, len(l), len(l) + 1, math.MaxInt} {
		wantAt(t, r, i, api.Row{}, api.ErrArg)
	}
	wantSelect(t, r, 0, api.Row{}, upTo(len(l))...)
	wantRange(t, r, 0, len(l), 0, l...)
	if told := r.Sorted(); !slices.Equal(told, inOrder(l)) {
		t.Fatalf("Sorted() = %v of the rows %v", told, l)
	}
}

// P10.1: 0 and MaxWide are allowed themselves, what is beyond both is not.
func TestNew(t *testing.T) {
	for arity := range api.MaxWide + 1 {
		wantRelation(t, relationOf(t, arity), arity, 0)
	}
	for _, arity := range []int{-1, -2, math.MinInt, math.MinInt32, api.MaxWide + 1, api.MaxWide + 2, 32, 64, 1 << 32, math.MaxInt32, math.MaxInt} {
		if r, e := relation.New(arity); r != nil || e != api.ErrArg {
			t.Errorf("New(%d) = %v, %d; want nil, ErrArg", arity, r != nil, e)
		}
	}
}

// P10.3, P10.2: in every column below the arity any number from 0 on may stand; in the others 0 alone.
func TestRowsOfTheArity(t *testing.T) {
	for arity := range api.MaxWide + 1 {
		r := relationOf(t, arity, api.Row{})
		has := []api.Row{{}}
		for i := range api.MaxWide {
			for _, s := range []api.Sym{1, math.MaxInt32, -1, math.MinInt32} {
				x := column(i, s)
				if i < arity && s > 0 {
					wantAdd(t, r, x, true, api.OK)
					has = append(has, x)
					continue
				}
				wantAdd(t, r, x, false, api.ErrRow)
				wantHas(t, r, x, false)
				wantRemove(t, r, x, false)
			}
		}
		wantRelation(t, r, arity, 0, has...)
	}
}

// P10.3: one wrong column among many that are right.
func TestWideRowsThatAreNone(t *testing.T) {
	var full api.Row
	for i := range full {
		full[i] = api.Sym(i + 1)
	}
	r := relationOf(t, api.MaxWide, full)
	for i := range full {
		x := full
		x[i] = -x[i]
		wantAdd(t, r, x, false, api.ErrRow)
		wantHas(t, r, x, false)
	}
	wantRelation(t, r, api.MaxWide, 0, full)
	for arity := range api.MaxWide {
		narrow := relationOf(t, arity)
		wantAdd(t, narrow, full, false, api.ErrRow)
		x := full
		clear(x[arity:])
		wantAdd(t, narrow, x, true, api.OK)
		x[arity] = -1
		wantAdd(t, narrow, x, false, api.ErrRow)
		clear(x[arity:])
		wantRelation(t, narrow, arity, 0, x)
	}
}

// P10.3: rows that differ in one column are two, whichever it is.
func TestEveryColumnCounts(t *testing.T) {
	r := relationOf(t, api.MaxWide, api.Row{})
	has := []api.Row{{}}
	for i := range api.MaxWide {
		has = append(has, column(i, 1))
		wantAdd(t, r, column(i, 1), true, api.OK)
	}
	wantRelation(t, r, api.MaxWide, 0, has...)
	for i := range has {
		wantRemove(t, r, has[i], true)
		wantRelation(t, r, api.MaxWide, i+1, has[i+1:]...)
	}
}

// P10.3: what is there already keeps its number, however often it is added.
func TestAddAgain(t *testing.T) {
	l := rows(20)
	r := relationOf(t, 2, l...)
	for i := range l {
		wantAdd(t, r, l[i], false, api.OK)
		wantAdd(t, r, l[len(l)-1-i], false, api.OK)
	}
	wantRelation(t, r, 2, 0, l...)
}

// P10.4: whichever row is taken out, the others keep their order; what is not there is not taken.
func TestRemove(t *testing.T) {
	const n = 12
	for i := range n {
		l := rows(n)
		r := relationOf(t, 2, l...)
		for _, x := range []api.Row{row(n, 0), row(-1, 0), row(0, 0, 1), {23: 1}} {
			wantRemove(t, r, x, false)
		}
		wantRelation(t, r, 2, 0, l...)
		wantRemove(t, r, l[i], true)
		left := slices.Concat(l[:i], l[i+1:])
		wantHas(t, r, l[i], false)
		wantSelect(t, r, 3, l[i])
		wantRelation(t, r, 2, 1, left...)
		wantRemove(t, r, l[i], false)
		wantRelation(t, r, 2, 1, left...)
		wantAdd(t, r, l[i], true, api.OK)
		wantRelation(t, r, 2, 1, append(left, l[i])...)
	}
}

// P10.4: all are taken out, from either end and from the middle.
func TestRemoveAll(t *testing.T) {
	for _, which := range []func(n int) int{func(int) int { return 0 }, func(n int) int { return n - 1 }, func(n int) int { return n / 2 }} {
		l := rows(10)
		r := relationOf(t, 2, l...)
		for gone := 1; len(l) > 0; gone++ {
			i := which(len(l))
			wantRemove(t, r, l[i], true)
			l = slices.Delete(l, i, i+1)
			wantRelation(t, r, 2, gone, l...)
		}
		wantAdd(t, r, row(5, 5), true, api.OK)
		wantRelation(t, r, 2, 10, row(5, 5))
	}
}

// P10.2: Gone counts what Remove took out, nothing else.
func TestGone(t *testing.T) {
	r := relationOf(t, 1, row(1))
	for i := range 9 {
		wantRemove(t, r, row(1), true)
		wantRemove(t, r, row(1), false)
		wantRemove(t, r, row(1, 1), false)
		wantRelation(t, r, 1, i+1)
		wantAdd(t, r, row(1), true, api.OK)
		wantAdd(t, r, row(1), false, api.OK)
		wantAdd(t, r, row(-1), false, api.ErrRow)
		wantRelation(t, r, 1, i+1, row(1))
		if c := r.Clone(); c.Gone() != 0 || r.Gone() != i+1 {
			t.Errorf("behind a Clone: %d gone, of the Clone %d", r.Gone(), c.Gone())
		}
	}
}

// P10.1 to P10.8: the rows of the chapter's section 'Examples', one behind the other.
func TestExamples(t *testing.T) {
	r := relationOf(t, 2, row(1, 2), row(3, 1))
	wantAdd(t, r, row(1, 2), false, api.OK)
	wantAdd(t, r, row(1, 4), true, api.OK)
	wantAdd(t, r, row(1, 2, 1), false, api.ErrRow)
	wantAdd(t, r, row(-1, 2), false, api.ErrRow)
	wantHas(t, r, row(3, 1), true)
	wantHas(t, r, row(3, 1, 1), false)
	wantAt(t, r, 1, row(3, 1), api.OK)
	wantAt(t, r, 3, api.Row{}, api.ErrArg)
	wantSelect(t, r, 1, row(1, 9), 0, 2)
	wantSelect(t, r, 3, row(1, 9))
	wantSelect(t, r, 4, row(7, 7), 0, 1, 2)
	wantSelect(t, r, 0, row(7, 7), 0, 1, 2)
	if l := r.Sorted(); !slices.Equal(l, []api.Row{row(1, 2), row(1, 4), row(3, 1)}) {
		t.Errorf("Sorted() = %v", l)
	}
	wantRange(t, r, -5, 2, 0, row(1, 2), row(3, 1))
	c := r.Clone()
	wantRemove(t, r, row(1, 2), true)
	wantRemove(t, r, row(1, 2), false)
	wantRelation(t, r, 2, 1, row(3, 1), row(1, 4))
	wantRelation(t, c, 2, 0, row(1, 2), row(3, 1), row(1, 4))
	wantAdd(t, r, row(1, 2), true, api.OK)
	wantSelect(t, r, 1, row(1), 1, 2)
	none := relationOf(t, 0, row())
	wantAdd(t, none, row(), false, api.OK)
	wantRelation(t, none, 0, 0, row())
	wantRemove(t, none, row(), true)
	wantRelation(t, none, 0, 1)
}
