package symbol_test

import (
	"math"
	"slices"
	"testing"

	"pedigree/api"
	"pedigree/symbol"
)

// R3: a nil pointer and a zero struct, under every call and any arguments.
func TestTableThatIsNotThere(t *testing.T) {
	for _, x := range []*symbol.Table{nil, {}, new(symbol.Table)} {
		for _, v := range append(values(), notValues()...) {
			wantAdd(t, x, v, 0, api.ErrNil)
			wantFind(t, x, v, 0, false)
			wantRow(t, x, api.Row{}, api.ErrNil, v, v)
			wantSeek(t, x, api.Row{}, false, v)
		}
		wantRow(t, x, api.Row{}, api.ErrNil)
		wantRow(t, x, api.Row{}, api.ErrNil, make([]api.Value, 25)...)
		wantSeek(t, x, api.Row{}, false)
		for _, n := range []int{0, -1, 1, 24, 25, math.MinInt, math.MaxInt} {
			wantValue(t, x, api.Sym(n), api.Value{}, api.ErrNil)
			wantTuple(t, x, api.Row{}, n, api.ErrNil)
			wantTuple(t, x, api.Row{-1}, n, api.ErrNil)
			wantCut(t, x, n, api.ErrNil)
		}
		if x.Len() != 0 {
			t.Errorf("Len() = %d", x.Len())
		}
		seq := x.All()
		if seq == nil {
			t.Fatal("All of a table that is not there is nil")
		}
		for s, v := range seq {
			t.Errorf("All of a table that is not there tells %d, %#v", s, v)
		}
	}
}

// slow is a table as the chapter says it, by a list alone.
type slow struct {
	most int
	has  []api.Value
}

func (m *slow) find(v api.Value) (api.Sym, bool) {
	at := slices.Index(m.has, v)
	return api.Sym(max(at, 0)), at >= 0
}

func (m *slow) add(v api.Value) (api.Sym, api.Errno) {
	s, ok := m.find(v)
	if slices.Contains(notValues(), v) {
		return 0, api.ErrValue
	}
	if ok {
		return s, api.OK
	}
	if len(m.has) == m.most {
		return 0, api.ErrFull
	}
	m.has = append(slices.Clone(m.has), v)
	return api.Sym(len(m.has) - 1), api.OK
}

func (m *slow) row(l []api.Value) (api.Row, api.Errno) {
	had := m.has
	var r api.Row
	for i, v := range l {
		s, e := m.add(v)
		if e != api.OK {
			m.has = had
			return api.Row{}, e
		}
		r[i] = s
	}
	return r, api.OK
}

func (m *slow) seek(l []api.Value) (api.Row, bool) {
	if slices.ContainsFunc(l, func(v api.Value) bool { return !slices.Contains(m.has, v) }) {
		return api.Row{}, false
	}
	r, _ := m.row(l)
	return r, true
}

// dice answers numbers below n, the same ones in every run.
type dice uint64

func (d *dice) below(n int) int {
	*d = *d*6364136223846793005 + 1442695040888963407
	return int(uint64(*d)>>33) % n
}

// picks answers some of l, any one any number of times.
func (d *dice) picks(l []api.Value) []api.Value {
	var out []api.Value
	for range d.below(6) {
		out = append(out, l[d.below(len(l))])
	}
	return out
}

// turn hands one call to a table and to the slow one, and holds the answers against each other.
func turn(t *testing.T, d *dice, x *symbol.Table, m *slow, l []api.Value) {
	t.Helper()
	v := l[d.below(len(l))]
	switch d.below(5) {
	case 0:
		s, e := m.add(v)
		wantAdd(t, x, v, s, e)
	case 1:
		tuple := d.picks(l)
		r, e := m.row(tuple)
		wantRow(t, x, r, e, tuple...)
	case 2:
		tuple := d.picks(l)
		r, ok := m.seek(tuple)
		wantSeek(t, x, r, ok, tuple...)
	case 3:
		s, ok := m.find(v)
		wantFind(t, x, v, s, ok)
	case 4:
		n := d.below(m.most + 3)
		if n > len(m.has) {
			wantCut(t, x, n, api.ErrArg)
			return
		}
		m.has = m.has[:n]
		wantCut(t, x, n, api.OK)
	}
}

// P2.2 to P2.9: any calls, one behind the other, are answered as the chapter says; two tables in turn know nothing of each other.
func TestAnyCalls(t *testing.T) {
	l := slices.Concat(values(), notValues()[:3])
	for seed := range 300 {
		d := dice(seed)
		mosts := []int{seed % 20, (seed + 7) % 20}
		tables := []*symbol.Table{tableOf(t, mosts[0]), tableOf(t, mosts[1])}
		slows := []*slow{{most: mosts[0]}, {most: mosts[1]}}
		for range 40 {
			i := d.below(2)
			turn(t, &d, tables[i], slows[i], l)
			wantTable(t, tables[0], slows[0].has...)
			wantTable(t, tables[1], slows[1].has...)
		}
		if t.Failed() {
			t.Fatalf("with the seed %d", seed)
		}
	}
}

// P2.9: two tables that were handed the same calls answer alike.
func TestSameCallsSameAnswers(t *testing.T) {
	for seed := range 50 {
		m := slow{most: 12}
		a, b := tableOf(t, m.most), tableOf(t, m.most)
		d, again := dice(seed), dice(seed)
		for range 40 {
			same := m
			turn(t, &d, a, &m, values())
			turn(t, &again, b, &same, values())
			wantTable(t, b, m.has...)
		}
	}
}

// P2.9: Find undoes Value, Tuple undoes Row, and unlike values have unlike numbers.
func TestThereAndBack(t *testing.T) {
	x := tableOf(t, 99, text("first"))
	d := dice(1)
	for range 500 {
		l := d.picks(values())
		r, e := x.Row(l...)
		if e != api.OK {
			t.Fatalf("Row(%#v) = %d", l, e)
		}
		wantTuple(t, x, r, len(l), api.OK, l...)
		wantSeek(t, x, r, true, l...)
	}
	seen := map[api.Value]api.Sym{}
	for s := range api.Sym(x.Len()) {
		v, _ := x.Value(s)
		if other, ok := seen[v]; ok {
			t.Errorf("%#v has the numbers %d and %d", v, other, s)
		}
		seen[v] = s
		wantFind(t, x, v, s, true)
	}
}

// P2.9: what has a number keeps it, however many values come.
func TestManyValues(t *testing.T) {
	const many = 200000
	x := tableOf(t, api.MaxValues, numbers(0, many)...)
	for i, v := range numbers(0, many) {
		wantFind(t, x, v, api.Sym(i), true)
		wantValue(t, x, api.Sym(i), v, api.OK)
	}
	wantCut(t, x, many/2, api.OK)
	wantAll(t, x, numbers(0, many/2)...)
	wantFind(t, x, number(many/2), 0, false)
	wantAdd(t, x, number(many), many/2, api.OK)
}
