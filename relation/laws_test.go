package relation_test

import (
	"iter"
	"math"
	"slices"
	"testing"

	"pedigree/api"
	"pedigree/relation"
)

// R3: a nil pointer and a zero struct, under every call and any arguments.
func TestRelationThatIsNotThere(t *testing.T) {
	for _, r := range []*relation.Relation{nil, {}, new(relation.Relation)} {
		for _, x := range []api.Row{{}, row(1), row(1, 2), row(-1), {23: 1}, {23: -1}} {
			for range 2 {
				wantAdd(t, r, x, false, api.ErrNil)
				wantHas(t, r, x, false)
				wantRemove(t, r, x, false)
			}
			for _, m := range []api.Mask{0, 1, 1 << 24, math.MaxUint32} {
				wantSelect(t, r, m, x)
			}
		}
		for _, i := range []int{math.MinInt, -1, 0, 1, math.MaxInt} {
			wantAt(t, r, i, api.Row{}, api.ErrNil)
			seq := r.Range(i, 9)
			if seq == nil {
				t.Fatal("Range of a relation that is not there is nil")
			}
			for i, x := range seq {
				t.Fatalf("Range of a relation that is not there tells %d, %v", i, x)
			}
		}
		if r.Arity() != 0 || r.Len() != 0 || r.Gone() != 0 || len(r.Sorted()) != 0 || r.Clone() != nil {
			t.Errorf("Arity() %d, Len() %d, Gone() %d, Sorted() %v, Clone() %v", r.Arity(), r.Len(), r.Gone(), r.Sorted(), r.Clone() != nil)
		}
	}
}

// P10.8, R5: what is done to a Clone, or to what it was made of, does nothing to the other, whatever spare room there is.
func TestClone(t *testing.T) {
	for n := range 20 {
		l := rows(n)
		r := relationOf(t, 2, l...)
		c := r.Clone()
		wantRelation(t, c, 2, 0, l...)
		wantAdd(t, r, row(90, 1), true, api.OK)
		wantAdd(t, c, row(90, 2), true, api.OK)
		wantAdd(t, r, row(91, 1), true, api.OK)
		wantRelation(t, r, 2, 0, append(slices.Clone(l), row(90, 1), row(91, 1))...)
		wantRelation(t, c, 2, 0, append(slices.Clone(l), row(90, 2))...)
		wantHas(t, c, row(91, 1), false)
		wantHas(t, r, row(90, 2), false)
		wantRemove(t, r, row(90, 1), true)
		if n > 0 {
			wantRemove(t, c, l[0], true)
			wantRemove(t, c, l[0], false)
			wantRelation(t, c, 2, 1, append(slices.Clone(l[1:]), row(90, 2))...)
		}
		wantRelation(t, r, 2, 1, append(slices.Clone(l), row(91, 1))...)
		wantAdd(t, c, row(1, 2, 3), false, api.ErrRow)
	}
}

// P10.8: a Clone has its arity, of any, and a Clone of a Clone too; a ranging of the one tells nothing of the other.
func TestCloneOfEachArity(t *testing.T) {
	for arity := range api.MaxWide + 1 {
		r := relationOf(t, arity, api.Row{})
		c := r.Clone().Clone()
		wantRelation(t, c, arity, 0, api.Row{})
		if arity < api.MaxWide {
			wantAdd(t, c, column(arity, 1), false, api.ErrRow)
		}
		if arity > 0 {
			wantAdd(t, c, column(arity-1, 1), true, api.OK)
		}
		seq := c.Range(0, 9)
		told := tell(seq, 0, -1, func() { r.Remove(api.Row{}) })
		if len(told) != c.Len() || r.Len() != 0 || len(tell(seq, 0, -1, nothing)) != c.Len() {
			t.Fatalf("a ranging over the Clone tells %v", told)
		}
	}
}

// dice answers numbers below n, the same ones in every run.
type dice uint64

func (d *dice) below(n int) int {
	*d = *d*6364136223846793005 + 1442695040888963407
	return int(uint64(*d)>>33) % n
}

// row answers a row of few numbers, so that the same ones come again; at times it is none of the arity.
func (d *dice) row(arity int) api.Row {
	var x api.Row
	for i := range arity {
		x[i] = api.Sym(d.below(3))
	}
	if d.below(10) == 0 {
		x[d.below(api.MaxWide)] = []api.Sym{-1, math.MinInt32, 1, math.MaxInt32}[d.below(4)]
	}
	return x
}

// slow is a relation as the chapter says it, by a list alone.
type slow struct {
	arity, gone, said, began int // said: how often Add said true; began: with how many rows a Clone began
	has                      []api.Row
}

func (m *slow) add(x api.Row) (bool, api.Errno) {
	for i, s := range x {
		if i < m.arity && s < 0 || i >= m.arity && s != 0 {
			return false, api.ErrRow
		}
	}
	if slices.Contains(m.has, x) {
		return false, api.OK
	}
	m.said++
	m.has = append(slices.Clone(m.has), x)
	return true, api.OK
}

func (m *slow) remove(x api.Row) bool {
	i := slices.Index(m.has, x)
	if i < 0 {
		return false
	}
	m.gone++
	m.has = slices.Concat(m.has[:i], m.has[i+1:])
	return true
}

func (m *slow) clone() *slow { return &slow{arity: m.arity, began: len(m.has), has: m.has} }

// pulled is a ranging that goes on while its relation turns, and what it has yet to tell.
type pulled struct {
	next func() (int, api.Row, bool)
	stop func()
	at   int
	left []api.Row
}

// pull begins to range: the first row is asked for at once.
func pull(t *testing.T, d *dice, r *relation.Relation, m *slow) *pulled {
	t.Helper()
	from, to := d.below(6)-2, d.below(12)-1
	p := &pulled{at: max(from, 0)}
	for i, x := range m.has {
		if i >= from && i < to {
			p.left = append(p.left, x)
		}
	}
	p.next, p.stop = iter.Pull2(r.Range(from, to))
	p.ask(t)
	return p
}

// ask holds the next row that is told against what the relation had when the ranging began.
func (p *pulled) ask(t *testing.T) {
	t.Helper()
	i, x, ok := p.next()
	if len(p.left) == 0 {
		if ok {
			t.Fatalf("a ranging that has told all tells %d, %v", i, x)
		}
		return
	}
	if !ok || i != p.at || x != p.left[0] {
		t.Fatalf("a ranging tells %d, %v, %v; want %d, %v", i, x, ok, p.at, p.left[0])
	}
	p.at, p.left = p.at+1, p.left[1:]
}

// pair is a relation and the slow one that was handed the same calls.
type pair struct {
	r *relation.Relation
	m *slow
}

// turn hands a call that changes something to both, and answers what came of it.
func (p pair) turn(t *testing.T, d *dice) string {
	t.Helper()
	x := d.row(p.m.arity)
	if len(p.m.has) > 0 && d.below(2) == 0 {
		x = p.m.has[d.below(len(p.m.has))]
	}
	if d.below(5) < 3 {
		ok, e := p.m.add(x)
		wantAdd(t, p.r, x, ok, e)
		return map[bool]string{true: "added", false: "not added"}[ok] + map[bool]string{true: ", no row"}[e == api.ErrRow]
	}
	ok := p.m.remove(x)
	wantRemove(t, p.r, x, ok)
	return map[bool]string{true: "removed", false: "not removed"}[ok]
}

// look holds all that is told of a relation against the slow one, and the laws of P10.9.
func (p pair) look(t *testing.T, d *dice) {
	t.Helper()
	wantRelation(t, p.r, p.m.arity, p.m.gone, p.m.has...)
	x, m := d.row(p.m.arity), api.Mask(d.below(1<<30)*4+d.below(4))
	wantHas(t, p.r, x, slices.Contains(p.m.has, x))
	few := p.r.Select(m, x)
	if !slices.Equal(few, chosen(p.m.has, p.m.arity, m, x)) {
		t.Fatalf("Select(%b, %v) = %v of %v", m, x, few, p.m.has)
	}
	for _, i := range p.r.Select(m|1<<d.below(32), x) {
		if !slices.Contains(few, i) {
			t.Fatalf("Select(%b, %v) has no %d, but by more columns", m, x, i)
		}
	}
	if p.r.Len()+p.r.Gone() != p.m.said+p.m.began {
		t.Fatalf("%d there, %d gone, %d added, %d at first", p.r.Len(), p.r.Gone(), p.m.said, p.m.began)
	}
}

// P10.1 to P10.9: any calls in any order, with Clones and rangings between them, are answered as the chapter says; no relation knows of another.
func TestAnyCalls(t *testing.T) {
	count := map[string]int{}
	for seed := range 1500 {
		d := dice(seed)
		var all []pair
		for _, arity := range []int{seed % 4, 2, api.MaxWide - seed%3} {
			all = append(all, pair{relationOf(t, arity), &slow{arity: arity}})
		}
		var open []*pulled
		for range 60 {
			p := all[d.below(len(all))]
			count[p.turn(t, &d)]++
			switch d.below(12) {
			case 0:
				open = append(open, pull(t, &d, p.r, p.m))
				count["ranging"]++
			case 1:
				all[d.below(len(all))] = pair{p.r.Clone(), p.m.clone()}
				count["clone"]++
			}
			for _, o := range open {
				if d.below(15) == 0 {
					o.ask(t)
				}
			}
			p.look(t, &d)
		}
		for _, o := range open {
			count["left to tell"] += len(o.left)
			for range len(o.left) + 1 {
				o.ask(t)
			}
			o.stop()
		}
		for _, p := range all {
			p.look(t, &d)
		}
	}
	for _, what := range []string{"added", "not added", "not added, no row", "removed", "not removed", "ranging", "clone", "left to tell"} {
		if count[what] < 500 {
			t.Errorf("%s: %d times", what, count[what])
		}
	}
}

// R5: two relations that were handed the same calls answer alike; what went before in another makes no difference.
func TestSameCallsSameAnswers(t *testing.T) {
	for seed := range 50 {
		d, again := dice(seed), dice(seed)
		a, b := pair{relationOf(t, 2), &slow{arity: 2}}, pair{relationOf(t, 2), &slow{arity: 2}}
		for range 60 {
			if x, y := a.turn(t, &d), b.turn(t, &again); x != y {
				t.Fatalf("%s and %s", x, y)
			}
			wantRelation(t, b.r, 2, a.m.gone, a.m.has...)
		}
	}
}

// P10.9: many rows keep their numbers, and are found.
func TestManyRows(t *testing.T) {
	const many = 100000
	r := relationOf(t, 2)
	for i := range many {
		wantAdd(t, r, row(api.Sym(many-i), api.Sym(i%2)), true, api.OK)
	}
	for i := range many {
		wantAt(t, r, i, row(api.Sym(many-i), api.Sym(i%2)), api.OK)
		wantHas(t, r, row(api.Sym(many-i), api.Sym(i%2)), true)
		wantHas(t, r, row(api.Sym(many-i), api.Sym(1-i%2)), false)
	}
	wantRemove(t, r, row(many/2, many/2%2), true)
	wantAt(t, r, many/2, row(many/2-1, 1), api.OK)
	wantAt(t, r, many-2, row(1, 1), api.OK)
	wantAt(t, r, many-1, api.Row{}, api.ErrArg)
	wantSelect(t, r, 3, row(1, 1), many-2)
	if l := r.Sorted(); len(l) != many-1 || !slices.Equal(l, inOrder(l)) {
		t.Errorf("Sorted() tells %d rows", len(l))
	}
}
