package store_test

import (
	"fmt"
	"strings"
	"testing"

	"pedigree/api"
	"pedigree/store"
)

// dirty answers a copy of a list with room behind it that must stay as it is.
func dirty[T any](l []T, spare T) []T {
	out := append(make([]T, 0, len(l)+3), l...)
	room := out[len(out):cap(out)]
	for i := range room {
		room[i] = spare
	}
	return out
}

func dirtyFact(f api.Fact) api.Fact { return api.Fact{Pred: f.Pred, Args: dirty(f.Args, num(77))} }

func dirtyFacts(l []api.Fact) []api.Fact {
	out := dirty(l, nums("spare", 77))
	for i, f := range out {
		out[i] = dirtyFact(f)
	}
	return out
}

func dirtyAtom(a api.Atom) api.Atom { return api.Atom{Pred: a.Pred, Args: dirty(a.Args, v("Spare"))} }

func dirtyExpr(e api.Expr) api.Expr {
	e.Kids = dirty(e.Kids, api.Expr{Term: v("Spare")})
	for i := range e.Kids {
		e.Kids[i] = dirtyExpr(e.Kids[i])
	}
	return e
}

func dirtyProgram(p api.Program) api.Program {
	out := dirty(p.Rules, api.Rule{Pred: "spare"})
	for i, r := range out {
		out[i].Head = dirty(r.Head, api.Arg{Term: v("Spare")})
		out[i].Body = dirty(r.Body, api.Literal{Kind: api.LPos, Atom: atom("spare")})
		for j, l := range out[i].Body {
			if l.Kind == api.LCmp {
				l.Left, l.Right = dirtyExpr(l.Left), dirtyExpr(l.Right)
			} else {
				l.Atom = dirtyAtom(l.Atom)
			}
			out[i].Body[j] = l
		}
	}
	return api.Program{Rules: out}
}

func spoilExpr(e api.Expr) {
	for _, kid := range e.Kids {
		spoilExpr(kid)
	}
	spoil(e.Kids, api.Expr{Term: v("Spoilt")})
}

func spoilProgram(p api.Program) {
	for _, r := range p.Rules {
		for _, l := range r.Body {
			spoil(l.Atom.Args, v("Spoilt"))
			spoilExpr(l.Left)
			spoilExpr(l.Right)
		}
		spoil(r.Head, api.Arg{Term: v("Spoilt")})
		spoil(r.Body, api.Literal{})
	}
	spoil(p.Rules, api.Rule{Pred: "spoilt"})
}

// spoil writes over a list and its spare room.
func spoil[T any](l []T, with T) {
	l = l[:cap(l)]
	for i := range l {
		l[i] = with
	}
}

func spoilFacts(l []api.Fact) {
	for _, f := range l {
		spoil(f.Args, text("spoilt"))
	}
	spoil(l, nums("spoilt"))
}

func spoilTuples(l [][]api.Value) {
	for _, x := range l {
		spoil(x, text("spoilt"))
	}
	spoil(l, nil)
}

func spoilCommits(l []api.Commit) {
	for _, c := range l {
		spoilFacts(c.Added)
		spoilFacts(c.Removed)
	}
	spoil(l, api.Commit{Seq: 99})
}

// wholeFacts writes facts with their spare room.
func wholeFacts(l []api.Fact) string {
	out := fmt.Sprint(l[:cap(l)])
	for _, f := range l {
		out += fmt.Sprint(f.Args[:cap(f.Args)])
	}
	return out
}

func wholeAtom(a api.Atom) string { return a.Pred + fmt.Sprint(a.Args[:cap(a.Args)]) }

func wholeExpr(e api.Expr) string {
	out := fmt.Sprint(e.Kids[:cap(e.Kids)])
	for _, kid := range e.Kids {
		out += wholeExpr(kid)
	}
	return out
}

func wholeProgram(p api.Program) string {
	out := fmt.Sprint(p.Rules[:cap(p.Rules)])
	for _, r := range p.Rules {
		out += fmt.Sprint(r.Head[:cap(r.Head)], r.Body[:cap(r.Body)])
		for _, l := range r.Body {
			out += wholeAtom(l.Atom) + wholeExpr(l.Left) + wholeExpr(l.Right)
		}
	}
	return out
}

// everything tells all that a database answers, and spoils each answer.
func everything(d *store.DB, of ruled) string {
	p := d.Program()
	out := fmt.Sprint(d.Seq(), p)
	spoilProgram(p)
	for seq := range d.Seq() + 1 {
		l, _ := d.At(seq)
		out += "\n" + showFacts(l)
		spoilFacts(l)
	}
	l, _ := d.Commits(1)
	out += "\n" + showCommits(l)
	spoilCommits(l)
	return out + "\n" + everyAnswer(d, of)
}

func everyAnswer(x asked, of ruled) string {
	out := ""
	for _, k := range of.preds {
		name, columns, _ := strings.Cut(k, " ")
		l, _ := x.Ask(atom(name, many(len(columns))...))
		out += showTuples(l) + "; "
		spoilTuples(l)
	}
	return out
}

// R4: what is handed in stays as it was, and is kept by its content alone; each answer is memory of its own.
func TestMemory(t *testing.T) {
	d := dice(3)
	for i := range 240 {
		of := programs()[i%len(programs())]
		rules := program(t, of.source)
		p, l := dirtyProgram(rules), dirtyFacts(d.first(of, rules))
		was := wholeProgram(p) + wholeFacts(l)
		db, clean := made(t, p, l), made(t, rules, l)
		if wholeProgram(p)+wholeFacts(l) != was {
			t.Fatalf("New has turned what was handed in: %s", of.source)
		}
		spoilProgram(p)
		spoilFacts(l)
		for range 4 {
			d.sameTurns(t, db.Begin(), clean.Begin(), of)
			want := everything(clean, of)
			for range 2 {
				if got := everything(db, of); got != want {
					t.Fatalf("%s: a database tells\n%s\nwant\n%s", of.source, got, want)
				}
			}
		}
	}
}

// sameTurns hands the same to two transactions, to the first one as something that is spoilt.
func (d *dice) sameTurns(t *testing.T, x, y *store.Tx, of ruled) {
	t.Helper()
	for range d.below(9) {
		f, q, in := d.fact(of), d.query(of), d.below(3) > 0
		g, r := dirtyFact(f), dirtyAtom(q)
		was := wholeFacts([]api.Fact{g}) + wholeAtom(r)
		var got, want api.Errno
		if in {
			got, want = x.Add(g), y.Add(f)
		} else {
			got, want = x.Remove(g), y.Remove(f)
		}
		l, one := x.Ask(r)
		m, other := y.Ask(q)
		if got != want || showTuples(l) != showTuples(m) || one != other {
			t.Fatalf("%s: %d, %s, %v; want %d, %s, %v", of.source, got, showTuples(l), one, want, showTuples(m), other)
		}
		if wholeFacts([]api.Fact{g})+wholeAtom(r) != was {
			t.Fatalf("%s: what was handed in is turned", of.source)
		}
		spoil(g.Args, text("spoilt"))
		spoil(r.Args, v("Spoilt"))
		spoilTuples(l)
		if got, want := everyAnswer(x, of), everyAnswer(y, of); got != want {
			t.Fatalf("%s: a transaction sees %s; want %s", of.source, got, want)
		}
	}
	n, err := x.Commit()
	if m, other := y.Commit(); n != m || err != other {
		t.Fatalf("%s: committed as %d, %d; want %d, %d", of.source, n, err, m, other)
	}
}

// R4: no two lists within one answer share memory: what is appended to one is not seen in another.
func TestListsWithinAnAnswer(t *testing.T) {
	d := of(t, low, "")
	x := d.Begin()
	addAll(t, x, row("e", 0, 9))
	wantCommit(t, x, 1, api.OK)
	x = d.Begin()
	for _, f := range row("e", 0, 4) {
		wantErr(t, "Remove", x.Remove(f), api.OK)
	}
	addAll(t, x, row("e", 20, 4))
	wantCommit(t, x, 2, api.OK)
	c, _ := d.Commits(1)
	want := showCommits(c)
	for i := range c {
		_ = append(c[i].Added, nums("spare", 1))
		_ = append(c[i].Removed, nums("spare", 2))
		for _, l := range [][]api.Fact{c[i].Added, c[i].Removed} {
			for _, f := range l {
				_ = append(f.Args, num(77))
			}
		}
	}
	if got := showCommits(c); got != want {
		t.Errorf("Commits(1) = %s; want %s", got, want)
	}
	l, _ := d.Ask(atom("e", v("X")))
	want = showTuples(l)
	for _, tuple := range l {
		_ = append(tuple, num(77))
	}
	if got := showTuples(l); got != want {
		t.Errorf("Ask = %s; want %s", got, want)
	}
}
