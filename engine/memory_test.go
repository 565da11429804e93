package engine_test

import (
	"fmt"
	"runtime"
	"slices"
	"testing"

	"pedigree/api"
	"pedigree/engine"
)

// dirty answers a copy of a list with room behind it that must stay as it is.
func dirty[T any](l []T, spare T) []T {
	out := append(make([]T, 0, len(l)+3), l...)
	room := out[len(out):cap(out)]
	for i := range room {
		room[i] = spare
	}
	return out
}

func dirtyFacts(l []api.Fact) []api.Fact {
	out := dirty(l, nums("spare", 77))
	for i, f := range out {
		out[i].Args = dirty(f.Args, num(77))
	}
	return out
}

func dirtyExpr(e api.Expr) api.Expr {
	e.Kids = dirty(e.Kids, ex(v("Spare")))
	for i := range e.Kids {
		e.Kids[i] = dirtyExpr(e.Kids[i])
	}
	return e
}

func dirtyProgram(p api.Program) api.Program {
	out := dirty(p.Rules, api.Rule{Pred: "spare"})
	for i, r := range out {
		out[i].Head = dirty(r.Head, api.Arg{Term: v("Spare")})
		out[i].Body = dirty(r.Body, pos("spare"))
		for j, lit := range out[i].Body {
			lit.Atom.Args = dirty(lit.Atom.Args, v("Spare"))
			if lit.Kind == api.LCmp {
				lit.Left, lit.Right = dirtyExpr(lit.Left), dirtyExpr(lit.Right)
			}
			out[i].Body[j] = lit
		}
	}
	return api.Program{Rules: out}
}

// whole writes what was handed in with its spare room.
func whole(p api.Program, l []api.Fact, q api.Atom) string {
	out := fmt.Sprint(p.Rules[:cap(p.Rules)], l[:cap(l)], q.Pred, q.Args[:cap(q.Args)])
	for _, f := range l {
		out += fmt.Sprint(f.Args[:cap(f.Args)])
	}
	for _, r := range p.Rules {
		out += fmt.Sprint(r.Head[:cap(r.Head)], r.Body[:cap(r.Body)])
		for _, lit := range r.Body {
			out += fmt.Sprint(lit.Atom.Args[:cap(lit.Atom.Args)]) + wholeExpr(lit.Left) + wholeExpr(lit.Right)
		}
	}
	return out
}

func wholeExpr(e api.Expr) string {
	out := fmt.Sprint(e.Kids[:cap(e.Kids)])
	for _, kid := range e.Kids {
		out += wholeExpr(kid)
	}
	return out
}

// spoil writes over a list and its spare room.
func spoil[T any](l []T, with T) {
	l = l[:cap(l)]
	for i := range l {
		l[i] = with
	}
}

func spoilTuples(l [][]api.Value) {
	for _, x := range l {
		spoil(x, text("spoilt"))
	}
	spoil(l, nil)
}

// R4: what is handed in stays as it was, its spare room too; an answer is memory of its own: it shares none with what was handed in, nor with another answer.
func TestCallsShareNoMemory(t *testing.T) {
	d := dice(41)
	some := 0
	for range 600 {
		p, l := d.fitting(9, 20)
		q := d.query(p)
		p, l, q = dirtyProgram(p), dirtyFacts(l), api.Atom{Pred: q.Pred, Args: dirty(q.Args, v("Spare"))}
		before, w := whole(p, l, q), ways()[d.below(4)]
		r := engine.Fit(p, l)
		got, _ := engine.Solve(p, l, q, w)
		want := showTuples(got)
		other, _ := engine.Solve(p, l, q, w)
		spoilTuples(other)
		if r != fine() || showTuples(got) != want || whole(p, l, q) != before {
			t.Fatalf("what was handed in is turned, or an answer shares memory: %s by %d", brief(p), w)
		}
		for _, f := range l {
			spoil(f.Args, text("spoilt"))
		}
		spoil(q.Args, v("Spoilt"))
		if showTuples(got) != want {
			t.Fatalf("an answer shares memory with what was handed in: %s by %d", brief(p), w)
		}
		if len(got) > 0 {
			some++
		}
	}
	if some < 100 {
		t.Errorf("%d with answers", some)
	}
}

// R4: no two lists within one answer share memory, nor do lines.
func TestListsWithinAnAnswer(t *testing.T) {
	p, l := program(t, "p(X, 5, Y) :- e(X, Y). p(1, 2, 3). p(Y, X, X) :- p(X, _, Y)."), facts(t, "e(1, 2). e(2, 3). e(1, 2). p(0, 0, 1).")
	for _, w := range ways() {
		want, _ := engine.Solve(p, l, atom("p", many(3)...), w)
		for i := range want {
			got, _ := engine.Solve(p, l, atom("p", many(3)...), w)
			spoil(got[i], text("spoilt"))
			for j := range got {
				if j != i && showTuple(got[j]) != showTuple(want[j]) {
					t.Errorf("the tuples %d and %d of %s share memory", i, j, showTuples(want))
				}
			}
		}
		if len(want) < 6 {
			t.Errorf("%d answers", len(want))
		}
		lines, _ := engine.Answer("", "e(1). e(2).", "e(X)?", w)
		spoil(lines, "spoilt")
		wantAnswer(t, "", "e(1). e(2).", "e(X)?", w, []string{"e(1).", "e(2)."})
	}
	tale, _ := engine.Explain(ancestors, "anc(1, X)?")
	same := slices.Clone(tale)
	spoil(tale, "spoilt")
	if again, _ := engine.Explain(ancestors, "anc(1, X)?"); !slices.Equal(again, same) {
		t.Errorf("Explain = %s", again)
	}
}

// R1, R5: what a call began has ended when it answers.
func TestNothingLabours(t *testing.T) {
	p, l := program(t, ancestors), chain("par", 40)
	before := runtime.NumGoroutine()
	for range 20 {
		for _, w := range ways() {
			if got, r := engine.Solve(p, l, atom("anc", api.Term{Val: num(30)}, v("X")), w); r != fine() || len(got) != 10 {
				t.Errorf("Solve by %d: %d answers, %v", w, len(got), r)
			}
		}
	}
	for range 1000 {
		if runtime.NumGoroutine() <= before {
			return
		}
		runtime.Gosched()
	}
	t.Errorf("%d goroutines, %d ahead of the calls", runtime.NumGoroutine(), before)
}
