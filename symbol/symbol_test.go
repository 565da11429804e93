package symbol_test

import (
	"math"
	"slices"
	"strings"
	"testing"

	"pedigree/api"
	"pedigree/symbol"
)

func number(n int64) api.Value { return api.Value{Kind: api.KNum, Num: n} }

func text(s string) api.Value { return api.Value{Kind: api.KText, Text: s} }

// values are unlike each other, some by one field alone.
func values() []api.Value {
	return []api.Value{
		number(0), text(""), number(7), text("7"), number(-1), text("a"), text("A"), text("ab"), text("a\x00"), text("\x00"), text("\xff\xfe"),
		number(math.MaxInt64), number(math.MinInt64), text(strings.Repeat("x", api.MaxText)), text(strings.Repeat("x", api.MaxText-1)),
	}
}

func notValues() []api.Value {
	return []api.Value{
		{}, {Kind: 3}, {Kind: -1, Num: 7}, {Kind: api.KNone, Text: "a"}, {Kind: api.KNum, Num: 7, Text: "a"}, {Kind: api.KText, Num: 7, Text: "a"},
		{Kind: api.KNum, Text: "a"}, {Kind: api.KText, Text: strings.Repeat("x", api.MaxText+1)},
	}
}

// numbers are the values of the numbers from first on, n of them.
func numbers(first, n int) []api.Value {
	var out []api.Value
	for i := range n {
		out = append(out, number(int64(first+i)))
	}
	return out
}

// tableOf answers a table for most values that has those of l.
func tableOf(t *testing.T, most int, l ...api.Value) *symbol.Table {
	t.Helper()
	x, e := symbol.New(most)
	if x == nil || e != api.OK {
		t.Fatalf("New(%d) = %v, %d", most, x, e)
	}
	for i, v := range l {
		wantAdd(t, x, v, api.Sym(i), api.OK)
	}
	return x
}

func wantAdd(t *testing.T, x *symbol.Table, v api.Value, want api.Sym, code api.Errno) {
	t.Helper()
	if s, e := x.Add(v); s != want || e != code {
		t.Errorf("Add(%#v) = %d, %d; want %d, %d", v, s, e, want, code)
	}
}

func wantFind(t *testing.T, x *symbol.Table, v api.Value, want api.Sym, found bool) {
	t.Helper()
	if s, ok := x.Find(v); s != want || ok != found {
		t.Errorf("Find(%#v) = %d, %v; want %d, %v", v, s, ok, want, found)
	}
}

func wantValue(t *testing.T, x *symbol.Table, s api.Sym, want api.Value, code api.Errno) {
	t.Helper()
	if v, e := x.Value(s); v != want || e != code {
		t.Errorf("Value(%d) = %#v, %d; want %#v, %d", s, v, e, want, code)
	}
}

func wantCut(t *testing.T, x *symbol.Table, n int, code api.Errno) {
	t.Helper()
	if e := x.Cut(n); e != code {
		t.Errorf("Cut(%d) = %d, want %d", n, e, code)
	}
}

// wantTable: the table has these values, in this order, by all its calls, and none else.
func wantTable(t *testing.T, x *symbol.Table, l ...api.Value) {
	t.Helper()
	if x.Len() != len(l) {
		t.Errorf("Len() = %d, want %d", x.Len(), len(l))
	}
	for i, v := range l {
		wantFind(t, x, v, api.Sym(i), true)
		wantValue(t, x, api.Sym(i), v, api.OK)
	}
	for _, v := range append(values(), notValues()...) {
		if !slices.Contains(l, v) {
			wantFind(t, x, v, 0, false)
		}
	}
	for _, s := range []api.Sym{math.MinInt32, -1, api.Sym(len(l)), api.Sym(len(l) + 1), math.MaxInt32} {
		wantValue(t, x, s, api.Value{}, api.ErrSym)
	}
	wantAll(t, x, l...)
}

func wantAll(t *testing.T, x *symbol.Table, l ...api.Value) {
	t.Helper()
	var told []api.Value
	for s, v := range x.All() {
		if int(s) != len(told) {
			t.Errorf("All tells the number %d at %d", s, len(told))
		}
		told = append(told, v)
	}
	if !slices.Equal(told, l) {
		t.Errorf("All tells %#v, want %#v", told, l)
	}
}

// P2.1: 0 and MaxValues are allowed themselves, one more and one less are not.
func TestNew(t *testing.T) {
	for _, most := range []int{0, 1, 2, api.MaxValues - 1, api.MaxValues} {
		x, e := symbol.New(most)
		if x == nil || e != api.OK {
			t.Fatalf("New(%d) = %v, %d", most, x, e)
		}
		wantTable(t, x)
	}
	for _, most := range []int{-1, math.MinInt, api.MaxValues + 1, math.MaxInt} {
		if x, e := symbol.New(most); x != nil || e != api.ErrArg {
			t.Errorf("New(%d) = %v, %d; want nil, ErrArg", most, x, e)
		}
	}
}

// P2.1, P2.2: a table takes as many values as it was made for, none if for none.
func TestTakesAsManyAsItWasMadeFor(t *testing.T) {
	for most := range 70 {
		l := numbers(100, most+1)
		x := tableOf(t, most, l[:most]...)
		wantAdd(t, x, l[most], 0, api.ErrFull)
		wantTable(t, x, l[:most]...)
	}
}

// P2.2: numbers rise from 0 on, and a value that has one keeps it.
func TestAdd(t *testing.T) {
	l := values()
	x := tableOf(t, len(l)+5, l...)
	wantTable(t, x, l...)
	for i, v := range l {
		wantAdd(t, x, v, api.Sym(i), api.OK)
	}
	wantTable(t, x, l...)
}

// P2.2: structs that are no values.
func TestAddOfNoValue(t *testing.T) {
	for most := range 3 {
		l := numbers(7, min(most, 1))
		x := tableOf(t, most, l...)
		for _, v := range notValues() {
			wantAdd(t, x, v, 0, api.ErrValue)
		}
		wantTable(t, x, l...)
	}
}

// P2.2: a full table still knows its own values; what is no value is told ahead of the lack of room.
func TestAddToFullTable(t *testing.T) {
	x := tableOf(t, 2, number(7), text("a"))
	wantAdd(t, x, text("a"), 1, api.OK)
	wantAdd(t, x, number(7), 0, api.OK)
	wantAdd(t, x, text("b"), 0, api.ErrFull)
	for _, v := range notValues() {
		wantAdd(t, x, v, 0, api.ErrValue)
	}
	wantTable(t, x, number(7), text("a"))
}

// P2.3: Find looks and adds nothing; numbers that no value has.
func TestFindValueLen(t *testing.T) {
	x := tableOf(t, 9)
	wantTable(t, x)
	for i, v := range values()[:9] {
		wantFind(t, x, v, 0, false)
		wantValue(t, x, api.Sym(i), api.Value{}, api.ErrSym)
		wantAdd(t, x, v, api.Sym(i), api.OK)
		wantTable(t, x, values()[:i+1]...)
	}
}

// P2.8: Cut at each number, and beyond them.
func TestCut(t *testing.T) {
	l := values()
	for n := range len(l) + 1 {
		x := tableOf(t, len(l), l...)
		for _, wrong := range []int{-1, math.MinInt, len(l) + 1, math.MaxInt} {
			wantCut(t, x, wrong, api.ErrArg)
		}
		wantTable(t, x, l...)
		wantCut(t, x, n, api.OK)
		wantTable(t, x, l[:n]...)
		wantCut(t, x, n, api.OK)
		wantCut(t, x, n+1, api.ErrArg)
		wantTable(t, x, l[:n]...)
	}
}

// P2.8, P2.9: what is cut may come again, with the number that comes next; there is room for it again.
func TestAddBehindCut(t *testing.T) {
	l := values()
	for n := range len(l) {
		x := tableOf(t, len(l), l...)
		wantCut(t, x, n, api.OK)
		turned := slices.Clone(l)
		slices.Reverse(turned[n:])
		for i := n; i < len(l); i++ {
			wantAdd(t, x, turned[i], api.Sym(i), api.OK)
		}
		wantAdd(t, x, number(99), 0, api.ErrFull)
		wantTable(t, x, turned...)
	}
}

// The chapter's examples.
func TestExamples(t *testing.T) {
	x := tableOf(t, 3)
	wantAdd(t, x, number(7), 0, api.OK)
	wantAdd(t, x, text("a"), 1, api.OK)
	wantAdd(t, x, number(7), 0, api.OK)
	wantTable(t, x, number(7), text("a"))
	wantRow(t, x, api.Row{1, 1, 0}, api.OK, text("a"), text("a"), number(7))
	wantRow(t, x, api.Row{}, api.OK)
	wantSeek(t, x, api.Row{1}, true, text("a"))
	wantSeek(t, x, api.Row{}, false, text("b"))
	wantRow(t, x, api.Row{}, api.ErrFull, text("b"), text("c"))
	wantRow(t, x, api.Row{}, api.ErrValue, text("b"), api.Value{Kind: 3})
	wantTable(t, x, number(7), text("a"))
	wantAdd(t, x, text("b"), 2, api.OK)
	wantAdd(t, x, text("c"), 0, api.ErrFull)
	wantAdd(t, x, text("a"), 1, api.OK)
	wantTuple(t, x, api.Row{1, 2, 9}, 2, api.OK, text("a"), text("b"))
	wantTuple(t, x, api.Row{1, 2, 9}, 3, api.ErrSym)
	wantTuple(t, x, api.Row{1, 2, 9}, 25, api.ErrArg)
	wantTuple(t, x, api.Row{1, 2, 9}, 0, api.OK)
	wantCut(t, x, 4, api.ErrArg)
	wantCut(t, x, 1, api.OK)
	wantFind(t, x, text("a"), 0, false)
	wantAdd(t, x, text("c"), 1, api.OK)
	wantTable(t, x, number(7), text("c"))
	wantRow(t, x, api.Row{}, api.ErrArg, make([]api.Value, 25)...)
}
