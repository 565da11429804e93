package par_test

import (
	"fmt"
	"testing"

	"pedigree/api"
)

// dirty answers a copy of a list with room behind it that must stay as it is.
func dirty[T any](l []T, spare T) []T {
	out := append(make([]T, 0, len(l)+3), l...)
	room := out[len(out):cap(out)]
	for i := range room {
		room[i] = spare
	}
	return out
}

func dirtyFacts(l []api.Fact) []api.Fact {
	out := dirty(l, nums("spare", 77))
	for i, f := range out {
		out[i].Args = dirty(f.Args, num(77))
	}
	return out
}

func dirtyExpr(e api.Expr) api.Expr {
	e.Kids = dirty(e.Kids, ex(v("Spare")))
	for i := range e.Kids {
		e.Kids[i] = dirtyExpr(e.Kids[i])
	}
	return e
}

func dirtyRules(l []api.Rule) []api.Rule {
	out := dirty(l, api.Rule{Pred: "spare"})
	for i, r := range out {
		out[i].Head = dirty(r.Head, api.Arg{Term: v("Spare")})
		out[i].Body = dirty(r.Body, pos("spare"))
		for j, lit := range out[i].Body {
			lit.Atom.Args = dirty(lit.Atom.Args, v("Spare"))
			lit.Left, lit.Right = dirtyExpr(lit.Left), dirtyExpr(lit.Right)
			out[i].Body[j] = lit
		}
	}
	return out
}

// whole writes what was handed in with its spare room.
func whole(rules []api.Rule, l []api.Fact) string {
	out := fmt.Sprint(rules[:cap(rules)]) + show(l[:cap(l)])
	for _, f := range l {
		out += showFact(api.Fact{Pred: f.Pred, Args: f.Args[:cap(f.Args)]})
	}
	for _, r := range rules {
		out += "\n" + fmt.Sprint(r.Head[:cap(r.Head)]) + fmt.Sprint(r.Body[:cap(r.Body)])
		for _, lit := range r.Body {
			out += fmt.Sprint(lit.Atom.Args[:cap(lit.Atom.Args)]) + wholeExpr(lit.Left) + wholeExpr(lit.Right)
		}
	}
	return out
}

func wholeExpr(e api.Expr) string {
	out := fmt.Sprint(e.Kids[:cap(e.Kids)])
	for _, kid := range e.Kids {
		out += wholeExpr(kid)
	}
	return out
}

// spoil writes over a list and its spare room.
func spoil[T any](l []T, with T) {
	l = l[:cap(l)]
	for i := range l {
		l[i] = with
	}
}

func spoilFacts(l []api.Fact) {
	for _, f := range l {
		spoil(f.Args, text("spoilt"))
	}
	spoil(l, nums("spoilt", 1))
}

// R4: what is handed in stays as it was, its spare room too; an answer is memory of its own: it shares none with what was handed in, nor with another answer.
func TestRunsShareNoMemory(t *testing.T) {
	d := dice(41)
	for range 400 {
		rules, l := dirtyRules(d.flat(4)), dirtyFacts(d.pairs())
		before := whole(rules, l)
		all, x := mustRun(t, rules, l, d.crew(), nil)
		want := show(all) + stats(x)
		others, y := mustRun(t, rules, l, d.crew(), nil)
		spoilFacts(others)
		spoil(y.New, -7)
		if show(all)+stats(x) != want || whole(rules, l) != before {
			t.Fatalf("what was handed in is turned, or an answer shares memory: %s over %s", brief(rules), brief(show(l)))
		}
		spoilFacts(l)
		if show(all)+stats(x) != want {
			t.Fatalf("an answer shares memory with what was handed in: %s", brief(rules))
		}
	}
}

// R4: so with models.
func TestModelsShareNoMemory(t *testing.T) {
	d := dice(42)
	for range 400 {
		rules, l := dirtyRules(d.leveled(8)), dirtyFacts(d.facts(16))
		before := whole(rules, l)
		all := mustModel(t, rules, l, d.crew(), nil)
		want := show(all)
		spoilFacts(mustModel(t, rules, l, d.crew(), nil))
		if show(all) != want || whole(rules, l) != before {
			t.Fatalf("what was handed in is turned, or an answer shares memory: %s over %s", brief(rules), brief(show(l)))
		}
		spoilFacts(l)
		if show(all) != want {
			t.Fatalf("an answer shares memory with what was handed in: %s", brief(rules))
		}
	}
}

// R4: no two lists within one answer share memory.
func TestListsWithinAnAnswer(t *testing.T) {
	rules, l := rulesOf(t, "p(X, 5, Y) :- e(X, Y). p(1, 2, 3). q(Y, X) :- p(X, _, Y)."), factsOf(t, "e(1, 2). e(2, 3). e(1, 2). f(1).")
	want, x := mustRun(t, rules, l, 3, nil)
	for i := range want {
		run, _ := mustRun(t, rules, l, 3, nil)
		for _, got := range [][]api.Fact{run, mustModel(t, rules, l, 3, nil)} {
			spoil(got[i].Args, text("spoilt"))
			for j := range got {
				if j != i && showFact(got[j]) != showFact(want[j]) {
					t.Errorf("the facts %d and %d of %s share memory", i, j, show(want))
				}
			}
		}
	}
	spoilFacts(want)
	if stats(x) != "3 [3 3] 6" {
		t.Errorf("the stats are %s", stats(x))
	}
}
