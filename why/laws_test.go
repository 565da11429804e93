package why_test

import (
	"fmt"
	"slices"
	"strings"
	"testing"

	"pedigree/api"
	"pedigree/model"
	"pedigree/why"
)

func shuffled[T any](d *dice, l []T) []T {
	out := slices.Clone(l)
	for i := range out {
		j := i + d.below(len(out)-i)
		out[i], out[j] = out[j], out[i]
	}
	return out
}

// R6, P0.4: facts in any order, and twice, have the same proofs; with rules in another order a fact has the same height, by a rule that may have another number.
func TestAnyOrder(t *testing.T) {
	d := dice(6)
	for range 300 {
		p, l := d.leveled(12), d.facts(16)
		m, _ := model.Model(p, l)
		other := shuffled(&d, append(slices.Clone(l), l[:len(l)/2]...))
		turned := api.Program{Rules: shuffled(&d, append(slices.Clone(p.Rules), p.Rules...))}
		for _, f := range m {
			x := mustWhy(t, p, l, f)
			if y := mustWhy(t, p, other, f); !isSame(x, y) {
				t.Fatalf("%s: %s, and in another order %s", called(p, l, f), showProof(x), showProof(y))
			}
			wantCheck(t, p, other, x, true)
			y := mustWhy(t, turned, other, f)
			if why.Height(x) != why.Height(y) {
				t.Fatalf("%s: of height %d, and with the rules in another order %d", called(p, l, f), why.Height(x), why.Height(y))
			}
		}
	}
}

// P23.7: what is told has lines, one for each part; more rules and facts with which the fact has nothing to do change nothing.
func TestMoreRules(t *testing.T) {
	d := dice(7)
	more := programOf(t, "far(X) :- near(X), not e(X, _). more(count()) :- far(X). more(X) :- e(X, Y), t(Y, _), a(_), b(_), c(_), u(_, _), z, q_w(_, _). near(X) :- n(X).")
	for range 300 {
		p, l := d.leveled(12), d.facts(16)
		m, _ := model.Model(p, l)
		wider := api.Program{Rules: append(slices.Clone(p.Rules), more.Rules...)}
		facts := append(factsOf(t, "near(7). other(1, 2, 3)."), l...)
		for _, f := range m {
			x := mustWhy(t, p, l, f)
			if y := mustWhy(t, wider, facts, f); !isSame(x, y) {
				t.Fatalf("%s: %s, and with more rules %s", called(p, l, f), showProof(x), showProof(y))
			}
			wantCheck(t, wider, facts, x, true)
			if lines, err := why.Lines(x); err != api.OK || len(lines) != parts(x) || slices.ContainsFunc(lines, func(s string) bool { return strings.ContainsAny(s, "\n\r\t\x00") }) {
				t.Fatalf("Lines(%s): %q, %d", showProof(x), lines, err)
			}
		}
	}
}

func parts(x api.Proof) int {
	n := 1
	for _, kid := range x.Kids {
		n += parts(kid)
	}
	return n
}

// cells counts in how many lists each place of memory stands.
type cells map[any]int

func addCells[T any](c cells, l []T) {
	l = l[:cap(l)]
	for i := range l {
		c[&l[i]]++
	}
}

func (c cells) facts(l []api.Fact) {
	addCells(c, l)
	for _, f := range l[:cap(l)] {
		addCells(c, f.Args)
	}
}

func (c cells) proof(x api.Proof) {
	addCells(c, x.Fact.Args)
	addCells(c, x.Binds)
	addCells(c, x.Kids)
	for _, kid := range x.Kids {
		c.proof(kid)
	}
}

func (c cells) program(p api.Program) {
	addCells(c, p.Rules)
	for _, r := range p.Rules {
		addCells(c, r.Head)
		addCells(c, r.Body)
		for _, l := range r.Body {
			addCells(c, l.Atom.Args)
		}
	}
}

// isOwn: does no place stand in two lists?
func (c cells) isOwn() bool {
	for _, n := range c {
		if n > 1 {
			return false
		}
	}
	return true
}

// roomy answers a copy of a list with room behind it that must stay as it is.
func roomy[T any](l []T, spare T) []T {
	out := append(make([]T, 0, len(l)+3), l...)
	room := out[len(out):cap(out)]
	for i := range room {
		room[i] = spare
	}
	return out
}

func roomyFacts(l []api.Fact) []api.Fact {
	out := roomy(l, fact("spare"))
	for i := range out {
		out[i].Args = roomy(out[i].Args, num(77))
	}
	return out
}

func roomyProgram(p api.Program) api.Program {
	p.Rules = roomy(p.Rules, api.Rule{Pred: "spare"})
	for i, r := range p.Rules {
		r.Head, r.Body = roomy(r.Head, api.Arg{Term: v("Spare")}), roomy(r.Body, pos("spare"))
		for j, l := range r.Body {
			r.Body[j].Atom.Args = roomy(l.Atom.Args, v("Spare"))
		}
		p.Rules[i] = r
	}
	return p
}

func roomyProof(x api.Proof) api.Proof {
	x.Fact.Args, x.Binds = roomy(x.Fact.Args, num(77)), roomy(x.Binds, bind("Spare", num(77)))
	x.Kids = roomy(x.Kids, given(fact("spare")))
	for i := range x.Kids {
		x.Kids[i] = roomyProof(x.Kids[i])
	}
	return x
}

// whole writes facts, a program and a proof with their spare room.
func whole(p api.Program, l []api.Fact, x api.Proof) string {
	out := fmt.Sprint(p.Rules[:cap(p.Rules)], l[:cap(l)])
	for _, r := range p.Rules {
		out += fmt.Sprint(r.Head[:cap(r.Head)], r.Body[:cap(r.Body)])
		for _, lit := range r.Body {
			out += fmt.Sprint(lit.Atom.Args[:cap(lit.Atom.Args)])
		}
	}
	for _, f := range l {
		out += fmt.Sprint(f.Args[:cap(f.Args)])
	}
	return out + wholeProof(x)
}

func wholeProof(x api.Proof) string {
	out := fmt.Sprint(x.Kind, x.Fact.Pred, x.Fact.Args[:cap(x.Fact.Args)], x.Rule, x.Binds[:cap(x.Binds)], x.Kids[:cap(x.Kids)])
	for _, kid := range x.Kids {
		out += wholeProof(kid)
	}
	return out
}

// R4: what is handed in stays as it was, its spare room too; no list of an answer shares memory with another one, of another answer or of what was handed in.
func TestMemoryOfItsOwn(t *testing.T) {
	d := dice(8)
	told := 0
	for range 400 {
		p, l := roomyProgram(d.leveled(12)), roomyFacts(d.facts(16))
		m, _ := model.Model(p, l)
		if len(m) == 0 {
			continue
		}
		f := m[d.below(len(m))]
		f.Args = roomy(f.Args, num(77))
		x := roomyProof(mustWhy(t, p, l, f))
		before := whole(p, l, x) + fmt.Sprint(f.Args[:cap(f.Args)])
		all := cells{}
		all.program(p)
		all.facts(l)
		all.proof(x)
		addCells(all, f.Args)
		for range 2 {
			y := mustWhy(t, p, l, f)
			all.proof(y)
			told += parts(y)
			all.facts(why.Uses(x))
			lines, _ := why.Lines(x)
			addCells(all, lines)
			why.Height(x)
			wantCheck(t, p, l, x, true)
		}
		if !all.isOwn() {
			t.Fatalf("%s: two lists share memory", called(p, l, f))
		}
		if whole(p, l, x)+fmt.Sprint(f.Args[:cap(f.Args)]) != before {
			t.Fatalf("%s: what was handed in is turned", called(p, l, f))
		}
	}
	if told < 1000 {
		t.Errorf("%d parts alone", told)
	}
}

// R4: where a fact is proved twice, its proofs share nothing.
func TestMemoryOfFactsTwice(t *testing.T) {
	p, l := programOf(t, "p(X) :- e(X), not f(X, _). q(X) :- p(X), p(X), p(_), X > 0. n(X, count()) :- q(X), q(Y)."), factsOf(t, "e(1). e(2).")
	x := mustWhy(t, p, l, fact("n", num(1), num(2)))
	all := cells{}
	all.proof(x)
	if n := parts(x); !all.isOwn() || n != 45 {
		t.Errorf("%d parts, %s", n, showProof(x))
	}
}

// R5: the same calls twice.
func TestTwice(t *testing.T) {
	d := dice(9)
	for range 200 {
		p, l := d.leveled(12), d.facts(16)
		m, _ := model.Model(p, l)
		for _, f := range m {
			x := mustWhy(t, p, l, f)
			for range 2 {
				if y := mustWhy(t, p, l, f); !isSame(x, y) {
					t.Fatalf("%s: %s, then %s", called(p, l, f), showProof(x), showProof(y))
				}
			}
		}
	}
}
