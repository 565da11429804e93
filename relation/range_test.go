package relation_test

import (
	"iter"
	"math"
	"slices"
	"testing"

	"pedigree/api"
)

// tell ranges over an iterator up to the most-th row, and does something behind each; nil, if the numbers do not rise by one from first on.
func tell(seq iter.Seq2[int, api.Row], first, most int, do func()) []api.Row {
	var out []api.Row
	for i, x := range seq {
		if i != first+len(out) {
			return nil
		}
		out = append(out, x)
		do()
		if len(out) == most {
			break
		}
	}
	return out
}

func nothing() {}

// P10.6: from any number up to any other; what no row has is left out.
func TestRange(t *testing.T) {
	edges := []int{math.MinInt, math.MinInt + 1, math.MinInt32, -5, -1, 0, 1, 2, 3, 4, 5, 6, 7, 99, math.MaxInt32, 1 << 32, math.MaxInt - 1, math.MaxInt}
	for n := range 6 {
		l := rows(n)
		r := relationOf(t, 2, l...)
		for _, from := range edges {
			for _, to := range edges {
				var want []api.Row
				for i, x := range l {
					if i >= from && i < to {
						want = append(want, x)
					}
				}
				wantRange(t, r, from, to, max(from, 0), want...)
			}
		}
	}
}

// P10.6: it may be broken off behind any row, and be ranged over again.
func TestRangeBrokenOff(t *testing.T) {
	l := rows(8)
	r := relationOf(t, 2, l...)
	for from := range len(l) {
		seq := r.Range(from, len(l))
		for most := 1; most <= len(l)-from; most++ {
			if told := tell(seq, from, most, nothing); !slices.Equal(told, l[from:from+most]) {
				t.Fatalf("from %d on, broken off behind %d: %v", from, most, told)
			}
		}
		if told := tell(seq, from, -1, nothing); !slices.Equal(told, l[from:]) {
			t.Fatalf("from %d on, ranged over again: %v", from, told)
		}
	}
}

// P10.6: what counts is when the ranging begins, not when Range is called.
func TestRangeTellsWhatIsThereThen(t *testing.T) {
	r := relationOf(t, 2)
	all, some := r.Range(math.MinInt, math.MaxInt), r.Range(1, 3)
	if all == nil || some == nil {
		t.Fatal("Range of a relation without rows is nil")
	}
	l := rows(9)
	for i, x := range l {
		if told := tell(all, 0, -1, nothing); !slices.Equal(told, l[:i]) {
			t.Fatalf("of %d rows: %v", i, told)
		}
		if told := tell(some, 1, -1, nothing); !slices.Equal(told, l[min(1, i):min(3, i)]) {
			t.Fatalf("of %d rows, from 1 to 2: %v", i, told)
		}
		wantAdd(t, r, x, true, api.OK)
	}
	for i, x := range l {
		wantRemove(t, r, x, true)
		left := l[i+1:]
		if told := tell(all, 0, -1, nothing); !slices.Equal(told, left) {
			t.Fatalf("behind %d Removes: %v", i+1, told)
		}
		if told := tell(some, 1, -1, nothing); !slices.Equal(told, left[min(1, len(left)):min(3, len(left))]) {
			t.Fatalf("behind %d Removes, from 1 to 2: %v", i+1, told)
		}
	}
}

// P10.6: whichever rows are removed and added behind each row that is told, the ranging goes on as it began.
func TestRangeWhileTheRelationTurns(t *testing.T) {
	const n = 9
	for first := range n {
		for count := range n - first + 1 {
			l := rows(n)
			r := relationOf(t, 2, l...)
			seq := r.Range(0, n)
			next := api.Sym(1000)
			turn := func() {
				for i := range count {
					x, e := r.At(first)
					if e != api.OK {
						t.Fatalf("At(%d) = %d", first, e)
					}
					wantRemove(t, r, x, true)
					wantAdd(t, r, row(next, api.Sym(i)), true, api.OK)
					next++
				}
			}
			if told := tell(seq, 0, -1, turn); !slices.Equal(told, l) {
				t.Fatalf("%d turns at %d behind each row: %v", count, first, told)
			}
			if told := tell(seq, 0, 1, turn); len(told) != 1 {
				t.Fatalf("broken off: %v", told)
			}
			if told := tell(seq, 0, -1, nothing); len(told) != n || !slices.Equal(told[:first], l[:first]) {
				t.Fatalf("ranged over again: %v", told)
			}
		}
	}
}

// P10.6: rows that are only added, or only removed, or taken out and put back, while one ranges; the spare room of the rows is of any size.
func TestRangeWhileRowsComeOrGo(t *testing.T) {
	for n := 1; n < 20; n++ {
		l := rows(n)
		r := relationOf(t, 2, l...)
		seq := r.Range(0, math.MaxInt)
		next := api.Sym(1000)
		come := func() {
			wantAdd(t, r, row(next), true, api.OK)
			next++
		}
		if told := tell(seq, 0, -1, come); !slices.Equal(told, l) || r.Len() != 2*n {
			t.Fatalf("while rows come: %v", told)
		}
		had := r.Len()
		back := func() {
			x, _ := r.At(n / 2)
			wantRemove(t, r, x, true)
			wantAdd(t, r, x, true, api.OK)
		}
		if told := tell(seq, 0, -1, back); len(told) != had || !slices.Equal(told[:n], l) {
			t.Fatalf("while rows are put back: %v", told)
		}
		var before []api.Row
		for i := range had {
			x, _ := r.At(i)
			before = append(before, x)
		}
		leave := func() {
			x, _ := r.At(0)
			wantRemove(t, r, x, true)
		}
		if told := tell(seq, 0, -1, leave); !slices.Equal(told, before) || r.Len() != 0 {
			t.Fatalf("while rows go: %v", told)
		}
		if told := tell(seq, 0, -1, nothing); told != nil {
			t.Fatalf("of no rows: %v", told)
		}
	}
}

// P10.6: a ranging within a ranging of the same iterator, each with what was there when it began.
func TestRangeWithinRange(t *testing.T) {
	r := relationOf(t, 1, row(0), row(1))
	seq := r.Range(0, 100)
	size := []int{2, 4}
	for i, x := range seq {
		if x != row(api.Sym(i)) || i > 1 {
			t.Fatalf("the outer one tells %d with %v", i, x)
		}
		inner := tell(seq, 0, -1, func() { wantAdd(t, r, row(api.Sym(r.Len())), true, api.OK) })
		if len(inner) != size[i] {
			t.Fatalf("the inner one tells %v", inner)
		}
	}
	if r.Len() != 8 {
		t.Fatalf("Len() = %d", r.Len())
	}
}

// P10.6: pulled, the ranging begins with the first row that is asked for.
func TestRangePulled(t *testing.T) {
	r := relationOf(t, 1, row(5))
	next, stop := iter.Pull2(r.Range(0, 9))
	defer stop()
	wantAdd(t, r, row(6), true, api.OK)
	if i, x, ok := next(); i != 0 || x != row(5) || !ok {
		t.Fatalf("first: %d, %v, %v", i, x, ok)
	}
	wantRemove(t, r, row(5), true)
	wantRemove(t, r, row(6), true)
	wantAdd(t, r, row(7), true, api.OK)
	if i, x, ok := next(); i != 1 || x != row(6) || !ok {
		t.Fatalf("second: %d, %v, %v", i, x, ok)
	}
	if i, x, ok := next(); ok {
		t.Fatalf("third: %d, %v", i, x)
	}
}

// P10.6, R4: the row that is told is a copy.
func TestRangeTellsCopies(t *testing.T) {
	l := rows(5)
	r := relationOf(t, 2, l...)
	for _, x := range r.Range(0, 5) {
		clear(x[:])
		if x != (api.Row{}) {
			t.Fatalf("cleared: %v", x)
		}
	}
	wantRelation(t, r, 2, 0, l...)
}
