package change_test

import (
	"fmt"
	"slices"
	"testing"

	"pedigree/api"
	"pedigree/change"
	"pedigree/model"
	"pedigree/value"
)

func shuffled[T any](d *dice, l []T) []T {
	out := slices.Clone(l)
	for i := range out {
		j := i + d.below(len(out)-i)
		out[i], out[j] = out[j], out[i]
	}
	return out
}

// again is a list in another order, with some of it twice.
func again[T any](d *dice, l []T) []T {
	return shuffled(d, append(slices.Clone(l), l[:d.below(len(l)+1)]...))
}

// rising is whether facts are in order, each once.
func rising(l []api.Fact) bool {
	for i := 1; i < len(l); i++ {
		if value.CompareFacts(l[i-1], l[i]) >= 0 {
			return false
		}
	}
	return true
}

// turnOver is any turn of a view.
func (d *dice) turnOver(x *change.View) (add, remove []api.Fact) {
	return d.turnOf(&slow{base: x.Base(), model: x.Facts()})
}

// P24.3, P24.5, P24.8: what a turn answers and doubts lies where it must, in order; what is kept is worked out anew.
func TestWhatFollows(t *testing.T) {
	d := dice(3)
	for range 600 {
		p := d.leveled(14)
		x := mustNew(t, p, d.facts(16))
		for range 5 {
			before := x.Facts()
			add, remove := d.turnOver(x)
			diff := mustTurn(t, x, add, remove)
			base, m, doubted := x.Base(), x.Facts(), x.Doubted()
			if len(less(diff.Removed, doubted))+len(less(doubted, before)) > 0 || len(less(doubted, base)) != len(doubted) {
				t.Fatalf("%s: removed %s, doubted %s, model %s", showProgram(p), show(diff.Removed), show(doubted), show(before))
			}
			if show(value.Facts(append(less(before, diff.Removed), diff.Added...))) != show(m) || len(less(diff.Added, before)) != len(diff.Added) {
				t.Fatalf("%s: from %s by %v to %s", showProgram(p), show(before), diff, show(m))
			}
			if !rising(base) || !rising(m) || !rising(doubted) || !rising(diff.Added) || !rising(diff.Removed) {
				t.Fatalf("%s: not in order: %s, %v", showProgram(p), whole(x), diff)
			}
			if !model.Is(p, base, m) {
				t.Fatalf("%s over %s: no model is %s", showProgram(p), show(base), show(m))
			}
			if y := mustNew(t, p, base); show(y.Base()) != show(base) || show(y.Facts()) != show(m) {
				t.Fatalf("%s: a view of the base has %s", showProgram(p), whole(y))
			}
		}
	}
}

// isPositive: has a rule neither a not nor an aggregate?
func isPositive(r api.Rule) bool {
	return isPlain(r) && !slices.ContainsFunc(r.Body, func(l api.Literal) bool { return l.Kind == api.LNot })
}

// P24.8: where no rule has a not or an aggregate, a turn that removes nothing that was given doubts nothing, and so nothing goes.
func TestNothingIsDoubted(t *testing.T) {
	d := dice(4)
	grown := 0
	for range 400 {
		p := d.leveled(20)
		p.Rules = slices.DeleteFunc(p.Rules, func(r api.Rule) bool { return !isPositive(r) })
		x := mustNew(t, p, d.facts(14))
		for range 3 {
			add := d.facts(4)
			remove := less(slices.Concat(x.Facts(), d.facts(4)), x.Base())
			diff := mustTurn(t, x, add, append(remove, d.some(add, 1)...))
			if len(diff.Removed)+len(x.Doubted()) > 0 {
				t.Fatalf("%s: add %s, remove %s: %v, doubted %s", showProgram(p), show(add), show(remove), diff, show(x.Doubted()))
			}
			if len(diff.Added) > len(value.Facts(add)) {
				grown++
			}
		}
	}
	if grown < 200 {
		t.Errorf("%d turns added more than was given", grown)
	}
}

// P24.8: a turn that leaves the base as it is answers nothing and doubts nothing.
func TestSameBase(t *testing.T) {
	d := dice(5)
	for range 400 {
		p := d.leveled(12)
		x := mustNew(t, p, d.facts(16))
		add, remove := d.turnOver(x)
		mustTurn(t, x, add, remove)
		base, m := x.Base(), x.Facts()
		some := d.some(base, 4)
		away := less(slices.Concat(m, d.facts(4)), base)
		diff := mustTurn(t, x, append(slices.Clone(some), d.some(base, 2)...), append(away, some...))
		if len(diff.Added)+len(diff.Removed)+len(x.Doubted()) > 0 || show(x.Base()) != show(base) || show(x.Facts()) != show(m) {
			t.Fatalf("%s over %s: %v, %s", showProgram(p), show(base), diff, whole(x))
		}
	}
}

// P24.8: there and back.
func TestThereAndBack(t *testing.T) {
	d := dice(6)
	for range 600 {
		p := d.leveled(14)
		x := mustNew(t, p, d.facts(16))
		base, m := x.Base(), x.Facts()
		there := mustTurn(t, x, d.facts(4), d.some(base, 5))
		after := x.Base()
		back := mustTurn(t, x, less(base, after), less(after, base))
		if show(x.Base()) != show(base) || show(x.Facts()) != show(m) || show(back.Added) != show(there.Removed) || show(back.Removed) != show(there.Added) {
			t.Fatalf("%s over %s: there %v, back %v", showProgram(p), show(base), there, back)
		}
	}
}

// P24.8: two turns one behind the other come to what one does.
func TestTwoTurns(t *testing.T) {
	d := dice(7)
	for range 600 {
		p := d.leveled(14)
		x := mustNew(t, p, d.facts(16))
		y := x.Clone()
		base, m := x.Base(), x.Facts()
		for range 2 + d.below(3) {
			add, remove := d.turnOver(x)
			mustTurn(t, x, add, remove)
		}
		after := x.Base()
		diff := mustTurn(t, y, less(after, base), less(base, after))
		if show(x.Facts()) != show(y.Facts()) || show(y.Base()) != show(after) || show(diff.Added) != show(less(x.Facts(), m)) || show(diff.Removed) != show(less(m, x.Facts())) {
			t.Fatalf("%s from %s to %s: turn by turn %s, in one %s", showProgram(p), show(base), show(after), show(x.Facts()), show(y.Facts()))
		}
	}
}

// P24.8, P0.4: the order of rules and facts, and how often they stand, is nothing.
func TestAnyOrder(t *testing.T) {
	d := dice(8)
	for range 400 {
		p, l := d.leveled(12), d.facts(16)
		x := mustNew(t, p, l)
		y := mustNew(t, api.Program{Rules: again(&d, p.Rules)}, again(&d, l))
		for range 4 {
			add, remove := d.turnOver(x)
			a := mustTurn(t, x, add, remove)
			b := mustTurn(t, y, again(&d, add), again(&d, remove))
			if told(a, x) != told(b, y) || whole(x) != whole(y) {
				t.Fatalf("%s: %s, and in another order %s", showProgram(p), told(a, x), told(b, y))
			}
		}
	}
}

// R5: the same calls of another view answer the same, whatever others are turned meanwhile; asking turns nothing.
func TestTwice(t *testing.T) {
	d := dice(9)
	for range 200 {
		p, l := d.leveled(12), d.facts(16)
		x, y, other := mustNew(t, p, l), mustNew(t, p, l), mustNew(t, p, l)
		for range 4 {
			add, remove := d.turnOver(x)
			a := mustTurn(t, x, add, remove)
			mustTurn(t, other, d.facts(4), other.Base())
			want := whole(x)
			x.Clone()
			b := mustTurn(t, y, add, remove)
			if told(a, x) != told(b, y) || whole(x) != want || whole(y) != want {
				t.Fatalf("%s: %s, then %s", showProgram(p), told(a, x), told(b, y))
			}
		}
	}
}

// cells counts in how many lists each place of memory stands.
type cells map[any]int

func addCells[T any](c cells, l []T) {
	l = l[:cap(l)]
	for i := range l {
		c[&l[i]]++
	}
}

func (c cells) facts(l []api.Fact) {
	addCells(c, l)
	for _, f := range l[:cap(l)] {
		addCells(c, f.Args)
	}
}

func (c cells) view(x *change.View) {
	c.facts(x.Base())
	c.facts(x.Facts())
	c.facts(x.Doubted())
}

// isOwn: does no place stand in two lists?
func (c cells) isOwn() bool {
	for _, n := range c {
		if n > 1 {
			return false
		}
	}
	return true
}

// roomy answers a copy of a list with room behind it that must stay as it is.
func roomy[T any](l []T, spare T) []T {
	out := append(make([]T, 0, len(l)+3), l...)
	room := out[len(out):cap(out)]
	for i := range room {
		room[i] = spare
	}
	return out
}

func roomyFacts(l []api.Fact) []api.Fact {
	out := roomy(l, fact("spare"))
	for i := range out {
		out[i].Args = roomy(out[i].Args, num(77))
	}
	return out
}

func roomyExpr(e api.Expr) api.Expr {
	e.Kids = roomy(e.Kids, ex(v("Spare")))
	for i := range e.Kids {
		e.Kids[i] = roomyExpr(e.Kids[i])
	}
	return e
}

func roomyProgram(p api.Program) api.Program {
	p.Rules = roomy(p.Rules, api.Rule{Pred: "spare"})
	for i, r := range p.Rules {
		r.Head, r.Body = roomy(r.Head, api.Arg{Term: v("Spare")}), roomy(r.Body, lit(api.LPos, "spare"))
		for j, l := range r.Body {
			r.Body[j].Atom.Args = roomy(l.Atom.Args, v("Spare"))
			r.Body[j].Left, r.Body[j].Right = roomyExpr(l.Left), roomyExpr(l.Right)
		}
		p.Rules[i] = r
	}
	return p
}

// roomOf writes an expression with its spare room.
func roomOf(e api.Expr) string {
	out := fmt.Sprint(e.Kids[:cap(e.Kids)])
	for _, kid := range e.Kids {
		out += roomOf(kid)
	}
	return out
}

// room writes what was handed in with its spare room.
func room(p api.Program, lists ...[]api.Fact) string {
	out := fmt.Sprint(p.Rules[:cap(p.Rules)])
	for _, r := range p.Rules {
		out += fmt.Sprint(r.Head[:cap(r.Head)], r.Body[:cap(r.Body)])
		for _, l := range r.Body {
			out += fmt.Sprint(l.Atom.Args[:cap(l.Atom.Args)]) + roomOf(l.Left) + roomOf(l.Right)
		}
	}
	for _, l := range lists {
		out += fmt.Sprint(l[:cap(l)])
		for _, f := range l {
			out += fmt.Sprint(f.Args[:cap(f.Args)])
		}
	}
	return out
}

// spoilFacts writes over a list of facts and all that it holds.
func spoilFacts(l []api.Fact) {
	l = l[:cap(l)]
	for i, f := range l {
		for j := range f.Args[:cap(f.Args)] {
			f.Args[:cap(f.Args)][j] = text("spoilt")
		}
		l[i] = fact("spoilt")
	}
}

func spoilExpr(e api.Expr) {
	for i, kid := range e.Kids {
		spoilExpr(kid)
		e.Kids[i] = ex(v("Spoilt"))
	}
}

func spoilProgram(p api.Program) {
	for i, r := range p.Rules {
		for j, l := range r.Body {
			for k := range l.Atom.Args {
				l.Atom.Args[k] = v("Spoilt")
			}
			spoilExpr(l.Left)
			spoilExpr(l.Right)
			r.Body[j] = lit(api.LNot, "spoilt")
		}
		for j := range r.Head {
			r.Head[j] = api.Arg{Agg: api.AggCount}
		}
		p.Rules[i] = api.Rule{Pred: "spoilt"}
	}
}

// R4: what is handed in stays as it was, its spare room too; no list of an answer shares memory with another one, of another answer or of what was handed in.
func TestMemoryOfItsOwn(t *testing.T) {
	d := dice(10)
	for range 200 {
		p, l := roomyProgram(d.leveled(12)), roomyFacts(d.facts(16))
		add, remove := d.turnOf(&slow{base: value.Facts(l), model: value.Facts(l)})
		add, remove = roomyFacts(add), roomyFacts(remove)
		before := room(p, l, add, remove)
		all := cells{}
		for _, handed := range [][]api.Fact{l, add, remove} {
			all.facts(handed)
		}
		x := mustNew(t, p, l)
		all.view(x)
		y := x.Clone()
		diff := mustTurn(t, x, add, remove)
		all.facts(diff.Added)
		all.facts(diff.Removed)
		for _, view := range []*change.View{x, x, y, x.Clone()} {
			all.view(view)
		}
		if !all.isOwn() {
			t.Fatalf("%s: two lists share memory", showProgram(p))
		}
		if room(p, l, add, remove) != before {
			t.Fatalf("%s: what was handed in is turned", showProgram(p))
		}
	}
}

// R4: whatever becomes of what was handed in and of what was answered, the view goes on as if nothing had.
func TestSpoilt(t *testing.T) {
	d := dice(11)
	for range 300 {
		p, l := d.leveled(12), d.facts(16)
		s := newSlow(t, roomyProgram(p), l)
		l = roomyFacts(l)
		x := mustNew(t, p, l)
		spoilProgram(p)
		spoilFacts(l)
		for range 4 {
			add, remove := d.turnOf(s)
			want, _ := s.turn(t, add, remove)
			add, remove = roomyFacts(add), roomyFacts(remove)
			y := x.Clone()
			got := mustTurn(t, x, add, remove)
			if show(got.Added) != show(want.Added) || show(got.Removed) != show(want.Removed) || whole(x) != s.whole() {
				t.Fatalf("%s: %v, %s; want %v, %s", showProgram(s.p), got, whole(x), want, s.whole())
			}
			for _, list := range [][]api.Fact{add, remove, got.Added, got.Removed, x.Base(), x.Facts(), x.Doubted(), y.Base(), y.Facts()} {
				spoilFacts(list)
			}
			if whole(x) != s.whole() {
				t.Fatalf("%s: behind what was spoilt %s; want %s", showProgram(s.p), whole(x), s.whole())
			}
		}
	}
}
