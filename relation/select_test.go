package relation_test

import (
	"math"
	"slices"
	"testing"

	"pedigree/api"
)

// cube answers all rows of three columns of numbers below n.
func cube(n int) []api.Row {
	var out []api.Row
	for i := range n * n * n {
		out = append(out, row(api.Sym(i%n), api.Sym(i/n%n), api.Sym(i/n/n)))
	}
	return out
}

// chosen answers the numbers of the rows of l that are x in the columns of m, as the chapter says it.
func chosen(l []api.Row, arity int, m api.Mask, x api.Row) []int {
	var out []int
	for i, y := range l {
		same := true
		for c := range arity {
			same = same && (m>>c&1 == 0 || x[c] == y[c])
		}
		if same {
			out = append(out, i)
		}
	}
	return out
}

// P10.5: every mask, with bits at and above the arity or without, under rows that are there and others.
func TestSelect(t *testing.T) {
	l := cube(3)
	r := relationOf(t, 3, l...)
	for m := range api.Mask(8) {
		for _, x := range append(cube(4), row(-1, 0, 0), row(0, math.MinInt32, 1), row(math.MaxInt32, 2, 2)) {
			want := chosen(l, 3, m, x)
			for _, more := range []api.Mask{0, 8, 1 << 23, 1 << 24, 1 << 31, math.MaxUint32 &^ 7} {
				wantSelect(t, r, m|more, x, want...)
				y := x
				y[3], y[23] = 5, -1
				wantSelect(t, r, m|more, y, want...)
			}
		}
	}
}

// P10.5: the columns that the mask leaves out are not looked at, whatever stands there.
func TestSelectLooksAtNoOtherColumns(t *testing.T) {
	r := relationOf(t, 3, row(1, 2, 3), row(1, 5, 3), row(2, 2, 3))
	for _, s := range []api.Sym{0, 2, -1, math.MinInt32, math.MaxInt32} {
		wantSelect(t, r, 1, row(1, s, s, s), 0, 1)
		wantSelect(t, r, 2, row(s, 2, s, s), 0, 2)
		wantSelect(t, r, 4, row(s, s, 3, s), 0, 1, 2)
		wantSelect(t, r, 5, row(1, s, 3, s), 0, 1)
		wantSelect(t, r, 8, row(s, s, s, s), 0, 1, 2)
	}
}

// P10.5: each column has a bit of its own, in relations of any arity; the bits from the arity on are no column's.
func TestSelectByEachColumn(t *testing.T) {
	for arity := range api.MaxWide + 1 {
		l := []api.Row{{}}
		for i := range arity {
			l = append(l, column(i, 7))
		}
		r := relationOf(t, arity, l...)
		for bit := range 32 {
			m, x := api.Mask(1)<<bit, api.Row{}
			for i := range x {
				x[i] = 7
			}
			if bit < arity {
				wantSelect(t, r, m, x, bit+1)
			} else {
				wantSelect(t, r, m, x, upTo(len(l))...)
			}
			wantSelect(t, r, m, api.Row{}, chosen(l, arity, m, api.Row{})...)
		}
	}
}

// P10.5, P10.9: behind Removes and Adds, the numbers are those that the rows have then, and they rise.
func TestSelectBehindTurns(t *testing.T) {
	l := cube(2)
	r := relationOf(t, 3, l...)
	for i := range 40 {
		x := l[i*3%len(l)]
		wantRemove(t, r, x, true)
		l = append(slices.DeleteFunc(l, func(y api.Row) bool { return y == x }), x)
		wantAdd(t, r, x, true, api.OK)
		for m := range api.Mask(8) {
			for _, y := range cube(2) {
				wantSelect(t, r, m, y, chosen(l, 3, m, y)...)
			}
		}
	}
}

// R4: what Select tells is memory of its own, spare room too.
func TestSelectTellsItsOwnMemory(t *testing.T) {
	l := rows(30)
	r := relationOf(t, 2, l...)
	a, b := r.Select(0, api.Row{}), r.Select(0, api.Row{})
	clear(a[:cap(a)])
	if !slices.Equal(b, upTo(30)) {
		t.Errorf("two answers share memory: %v", b)
	}
	clear(b[:cap(b)])
	wantRelation(t, r, 2, 0, l...)
}

// P10.7: by the first column in which rows differ, as numbers, whatever order they came in.
func TestSorted(t *testing.T) {
	sorted := []api.Row{
		{}, {23: 1}, {22: 1}, {21: math.MaxInt32}, row(0, 1), row(0, 1, 5), row(0, 9), row(0, 10), row(0, math.MaxInt32), row(1), row(1, 0, 0, 1),
		row(1, 1), row(2), row(9, 9, 9), row(10), row(255), row(256), row(65535, 1), row(65536), row(math.MaxInt32 - 1), row(math.MaxInt32),
	}
	for step := 1; step < len(sorted); step++ {
		r := relationOf(t, api.MaxWide)
		for i := range sorted {
			for !r.Has(sorted[i]) {
				wantAdd(t, r, sorted[i], true, api.OK)
				i = (i + step) % len(sorted)
			}
		}
		if l := r.Sorted(); !slices.Equal(l, sorted) {
			t.Fatalf("Sorted() = %v", l)
		}
	}
}

// P10.7, R4: what Sorted tells is memory of its own, spare room too; the relation keeps its order.
func TestSortedTellsItsOwnMemory(t *testing.T) {
	for n := 1; n < 40; n++ {
		l := rows(n)
		r := relationOf(t, 2, l...)
		a, b := r.Sorted(), r.Sorted()
		clear(a[:cap(a)])
		if !slices.Equal(b, inOrder(l)) {
			t.Fatalf("two answers share memory: %v", b)
		}
		wantRelation(t, r, 2, 0, l...)
		wantAdd(t, r, row(100, 100), true, api.OK)
		clear(b[:cap(b)])
		wantRelation(t, r, 2, 0, append(l, row(100, 100))...)
	}
}
