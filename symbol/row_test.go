package symbol_test

import (
	"math"
	"slices"
	"testing"

	"pedigree/api"
	"pedigree/symbol"
)

func wantRow(t *testing.T, x *symbol.Table, want api.Row, code api.Errno, l ...api.Value) {
	t.Helper()
	if r, e := x.Row(l...); r != want || e != code {
		t.Errorf("Row(%#v) = %v, %d; want %v, %d", l, r, e, want, code)
	}
}

func wantSeek(t *testing.T, x *symbol.Table, want api.Row, found bool, l ...api.Value) {
	t.Helper()
	if r, ok := x.Seek(l...); r != want || ok != found {
		t.Errorf("Seek(%#v) = %v, %v; want %v, %v", l, r, ok, want, found)
	}
}

func wantTuple(t *testing.T, x *symbol.Table, r api.Row, n int, code api.Errno, want ...api.Value) {
	t.Helper()
	l, e := x.Tuple(r, n)
	if !slices.Equal(l, want) || e != code {
		t.Errorf("Tuple(%v, %d) = %#v, %d; want %#v, %d", r, n, l, e, want, code)
	}
	if code != api.OK && l != nil {
		t.Errorf("Tuple(%v, %d) answers a list beside the error %d", r, n, e)
	}
}

// rising is the row of the first n numbers.
func rising(n int) api.Row {
	var r api.Row
	for i := range n {
		r[i] = api.Sym(i)
	}
	return r
}

// P2.4: rows of every width up to MaxWide, of values that are new, known, and known by the row itself.
func TestRow(t *testing.T) {
	for n := range api.MaxWide + 1 {
		l := numbers(100, n)
		x := tableOf(t, n)
		wantRow(t, x, rising(n), api.OK, l...)
		wantTable(t, x, l...)
		wantRow(t, x, rising(n), api.OK, l...)
		wantTable(t, x, l...)
	}
	x := tableOf(t, 9, text("a"), text("b"))
	wantRow(t, x, api.Row{1, 2, 1, 2, 3, 0, 3}, api.OK, text("b"), number(5), text("b"), number(5), text("c"), text("a"), text("c"))
	wantTable(t, x, text("a"), text("b"), number(5), text("c"))
}

// P2.4: one more than MaxWide, also if all of them have numbers, are no values, or there is no room.
func TestRowTooWide(t *testing.T) {
	for _, x := range []*symbol.Table{tableOf(t, 99, number(7)), tableOf(t, 1, number(7))} {
		for _, n := range []int{api.MaxWide + 1, api.MaxWide + 2, 1000} {
			wantRow(t, x, api.Row{}, api.ErrArg, slices.Repeat([]api.Value{number(7)}, n)...)
			wantRow(t, x, api.Row{}, api.ErrArg, numbers(100, n)...)
			wantRow(t, x, api.Row{}, api.ErrArg, make([]api.Value, n)...)
		}
		wantTable(t, x, number(7))
	}
}

// P2.4: the first error is the answer, and nothing of the row is left.
func TestRowRefused(t *testing.T) {
	had := []api.Value{number(7), text("a")}
	for room := range 5 {
		for at := range 6 {
			x := tableOf(t, len(had)+room, had...)
			l := slices.Concat(numbers(100, at), []api.Value{{Kind: 3}}, numbers(200, 9))
			code := api.ErrValue
			if at > room {
				code = api.ErrFull
			}
			wantRow(t, x, api.Row{}, code, l...)
			wantTable(t, x, had...)
			for i := range room {
				wantAdd(t, x, l[at+1+i], api.Sym(len(had)+i), api.OK)
			}
			wantAdd(t, x, text("more"), 0, api.ErrFull)
		}
	}
}

// P2.4: known values of a row that is refused are not taken back, wherever they stand in it.
func TestRowRefusedKeepsKnownValues(t *testing.T) {
	had := []api.Value{number(7), text("a"), text("b")}
	for _, wrong := range notValues() {
		x := tableOf(t, 9, had...)
		wantRow(t, x, api.Row{}, api.ErrValue, text("a"), number(1), text("a"), number(1), number(7), wrong)
		wantRow(t, x, api.Row{}, api.ErrValue, wrong)
		wantRow(t, x, api.Row{}, api.ErrValue, text("b"), wrong, text("a"))
		wantTable(t, x, had...)
	}
	x := tableOf(t, 4, had...)
	wantRow(t, x, api.Row{}, api.ErrFull, text("b"), number(1), text("a"), number(1), number(2), text("a"))
	wantTable(t, x, had...)
	wantRow(t, x, api.Row{2, 3, 1, 3, 1}, api.OK, text("b"), number(1), text("a"), number(1), text("a"))
}

// P2.5: Seek answers what Row would, of known values alone, and adds nothing.
func TestSeek(t *testing.T) {
	l := values()
	x := tableOf(t, 99, l...)
	for n := range len(l) + 1 {
		wantSeek(t, x, rising(n), true, l[:n]...)
	}
	wantSeek(t, x, api.Row{2, 2, 0, 1}, true, l[2], l[2], l[0], l[1])
	wantSeek(t, x, api.Row{}, true)
	for n := range 4 {
		for _, v := range append(notValues(), number(99), text("zz")) {
			wantSeek(t, x, api.Row{}, false, slices.Concat(l[2:2+n], []api.Value{v}, l[3:5])...)
		}
	}
	wantTable(t, x, l...)
}

// P2.5: MaxWide values and one more.
func TestSeekWide(t *testing.T) {
	l := numbers(100, api.MaxWide+1)
	x := tableOf(t, 99, l...)
	wantSeek(t, x, rising(api.MaxWide), true, l[:api.MaxWide]...)
	wantSeek(t, x, api.Row{}, false, l...)
	wantSeek(t, x, api.Row{}, false, slices.Repeat(l[3:4], 1000)...)
}

// P2.5: behind a Cut the values are found no more, behind a refused Row neither.
func TestSeekBehindCut(t *testing.T) {
	x := tableOf(t, 4, text("a"), text("b"), text("c"))
	wantCut(t, x, 1, api.OK)
	wantSeek(t, x, api.Row{}, false, text("a"), text("b"))
	wantSeek(t, x, api.Row{}, false, text("c"))
	wantRow(t, x, api.Row{}, api.ErrValue, text("c"), api.Value{})
	wantSeek(t, x, api.Row{}, false, text("c"))
	wantAdd(t, x, text("c"), 1, api.OK)
	wantSeek(t, x, api.Row{0, 1}, true, text("a"), text("c"))
}

// P2.6: as many columns as are asked for.
func TestTuple(t *testing.T) {
	l := numbers(100, api.MaxWide)
	x := tableOf(t, 99, l...)
	for n := range api.MaxWide + 1 {
		wantTuple(t, x, rising(api.MaxWide), n, api.OK, l[:n]...)
	}
	wantTuple(t, x, api.Row{3, 3, 0, 5}, 5, api.OK, l[3], l[3], l[0], l[5], l[0])
	for _, n := range []int{-1, math.MinInt, api.MaxWide + 1, math.MaxInt} {
		wantTuple(t, x, api.Row{}, n, api.ErrArg)
		wantTuple(t, x, api.Row{-1}, n, api.ErrArg)
	}
}

// P2.6: a column that is no value's number is a fault, if it is asked for.
func TestTupleOfNoNumbers(t *testing.T) {
	x := tableOf(t, 9, text("a"), text("b"))
	for at := range api.MaxWide {
		for _, s := range []api.Sym{-1, 2, math.MinInt32, math.MaxInt32} {
			r := api.Row{1, 0, 1}
			r[at] = s
			for n := range api.MaxWide + 1 {
				l, e := x.Tuple(r, n)
				if (e == api.ErrSym) != (n > at) || e == api.ErrSym && l != nil || e == api.OK && len(l) != n {
					t.Errorf("Tuple(%v, %d) = %#v, %d", r, n, l, e)
				}
			}
		}
	}
	empty := tableOf(t, 9)
	wantTuple(t, empty, api.Row{}, 1, api.ErrSym)
	wantTuple(t, empty, api.Row{}, 0, api.OK)
	wantCut(t, x, 1, api.OK)
	wantTuple(t, x, api.Row{0, 1}, 1, api.OK, text("a"))
	wantTuple(t, x, api.Row{0, 1}, 2, api.ErrSym)
}

// R4: what is handed in is as it was, its spare room too, and not kept.
func TestRowKeepsNoList(t *testing.T) {
	room := numbers(0, 9)
	l := room[2:5]
	x := tableOf(t, 9)
	wantRow(t, x, api.Row{0, 1, 2}, api.OK, l...)
	wantSeek(t, x, api.Row{0, 1, 2}, true, l...)
	wantRow(t, x, api.Row{}, api.ErrValue, append(room[2:5:5], api.Value{})...)
	if !slices.Equal(room, numbers(0, 9)) {
		t.Errorf("the list that was handed in is now %#v", room)
	}
	for i := range room {
		room[i] = text("other")
	}
	wantTable(t, x, numbers(2, 3)...)
}

// R4: tuples share no memory with one another or with the table, their spare room neither.
func TestTuplesAreNewMemory(t *testing.T) {
	l := values()[:6]
	x := tableOf(t, 9, l...)
	var told [][]api.Value
	for range 3 {
		for n := range len(l) + 1 {
			tuple, _ := x.Tuple(rising(api.MaxWide), n)
			told = append(told, tuple)
		}
	}
	for i, tuple := range told {
		tuple = tuple[:cap(tuple)]
		for j := range tuple {
			tuple[j] = number(int64(1000 + i))
		}
	}
	for i, tuple := range told {
		for _, v := range tuple[:cap(tuple)] {
			if v != number(int64(1000+i)) {
				t.Errorf("the tuple %d has a value of another one: %#v", i, v)
			}
		}
	}
	wantTable(t, x, l...)
}
