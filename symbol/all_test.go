package symbol_test

import (
	"iter"
	"slices"
	"testing"

	"pedigree/api"
)

// tell ranges over an iterator up to the n-th value, and does something behind each.
func tell(seq iter.Seq2[api.Sym, api.Value], n int, do func()) []api.Value {
	var out []api.Value
	for s, v := range seq {
		if int(s) != len(out) {
			return nil
		}
		out = append(out, v)
		do()
		if len(out) == n {
			break
		}
	}
	return out
}

func nothing() {}

// P2.7: rising, of any number of values, broken off anywhere.
func TestAll(t *testing.T) {
	l := values()
	for most := range len(l) + 1 {
		x := tableOf(t, 99, l[:most]...)
		wantAll(t, x, l[:most]...)
		seq := x.All()
		for n := 1; n <= most; n++ {
			if told := tell(seq, n, nothing); !slices.Equal(told, l[:n]) {
				t.Errorf("broken off at %d: %#v", n, told)
			}
		}
		if told := tell(seq, -1, nothing); !slices.Equal(told, l[:most]) {
			t.Errorf("ranged over again: %#v", told)
		}
	}
}

// P2.7: what counts is when the ranging begins, not when All is called.
func TestAllTellsWhatIsThereThen(t *testing.T) {
	x := tableOf(t, 9)
	seq := x.All()
	if seq == nil {
		t.Fatal("All of an empty table is nil")
	}
	if told := tell(seq, -1, nothing); told != nil {
		t.Errorf("an empty table tells %#v", told)
	}
	for i, v := range values()[:9] {
		wantAdd(t, x, v, api.Sym(i), api.OK)
		if told := tell(seq, -1, nothing); !slices.Equal(told, values()[:i+1]) {
			t.Errorf("behind %d values: %#v", i+1, told)
		}
	}
	wantCut(t, x, 2, api.OK)
	if told := tell(seq, -1, nothing); !slices.Equal(told, values()[:2]) {
		t.Errorf("behind the Cut: %#v", told)
	}
}

// P2.7: values that are added, cut, or put where others were make no difference to a ranging that has begun.
func TestAllWhileTheTableTurns(t *testing.T) {
	l := values()[:6]
	next := 1000
	for keep := range len(l) + 1 {
		for room := range 4 {
			x := tableOf(t, len(l)+room, l...)
			seq := x.All()
			turn := func() {
				x.Cut(min(keep, x.Len()))
				for range len(l) + room {
					x.Add(number(int64(next)))
					next++
				}
			}
			if told := tell(seq, -1, turn); !slices.Equal(told, l) {
				t.Errorf("Cut(%d) while ranging: %#v", keep, told)
			}
			if told := tell(seq, -1, nothing); len(told) != len(l)+room || !slices.Equal(told[:keep], l[:keep]) {
				t.Errorf("Cut(%d), ranged over again: %#v", keep, told)
			}
		}
	}
}

// P2.7: a ranging that is broken off while the table turns leaves nothing behind; the next one tells what is there.
func TestAllBrokenOffWhileTheTableTurns(t *testing.T) {
	x := tableOf(t, 9, text("a"), text("b"), text("c"))
	seq := x.All()
	turn := func() {
		x.Cut(1)
		x.Row(text("d"), text("e"), text("f"))
	}
	if told := tell(seq, 2, turn); !slices.Equal(told, []api.Value{text("a"), text("b")}) {
		t.Errorf("broken off: %#v", told)
	}
	wantTable(t, x, text("a"), text("d"), text("e"), text("f"))
	if told := tell(seq, -1, func() { x.Cut(0) }); !slices.Equal(told, []api.Value{text("a"), text("d"), text("e"), text("f")}) {
		t.Errorf("ranged over again: %#v", told)
	}
	if told := tell(seq, -1, nothing); told != nil {
		t.Errorf("an empty table tells %#v", told)
	}
}

// P2.7: a ranging within a ranging of the same iterator, each with what was there when it began.
func TestAllWithinAll(t *testing.T) {
	x := tableOf(t, 99, number(0), number(1))
	seq := x.All()
	at := 0
	for s, v := range seq {
		if want := numbers(0, 2)[s]; v != want {
			t.Errorf("the outer one tells %#v at %d", v, s)
		}
		inner := tell(seq, -1, func() { x.Add(number(int64(x.Len()))) })
		if want := numbers(0, []int{2, 4}[at]); !slices.Equal(inner, want) {
			t.Errorf("the inner one tells %#v, want %#v", inner, want)
		}
		at++
	}
	wantTable(t, x, numbers(0, 8)...)
}

// P2.7: pulled, the ranging begins with the first value that is asked for.
func TestAllPulled(t *testing.T) {
	x := tableOf(t, 9, text("a"))
	next, stop := iter.Pull2(x.All())
	defer stop()
	wantAdd(t, x, text("b"), 1, api.OK)
	if s, v, ok := next(); s != 0 || v != text("a") || !ok {
		t.Errorf("first: %d, %#v, %v", s, v, ok)
	}
	wantCut(t, x, 0, api.OK)
	wantAdd(t, x, text("c"), 0, api.OK)
	if s, v, ok := next(); s != 1 || v != text("b") || !ok {
		t.Errorf("second: %d, %#v, %v", s, v, ok)
	}
	if s, v, ok := next(); ok {
		t.Errorf("third: %d, %#v", s, v)
	}
}
