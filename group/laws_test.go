package group_test

import (
	"fmt"
	"slices"
	"testing"

	"pedigree/api"
	"pedigree/group"
	"pedigree/join"
	"pedigree/naive"
	"pedigree/value"
)

func mustGive(t *testing.T, r api.Rule, l []api.Fact) []api.Fact {
	t.Helper()
	out, err := group.Gives(r, l)
	if err != api.OK {
		t.Fatalf("Gives(%s, %s): %d", brief(r), brief(show(l)), err)
	}
	return out
}

func mustSolve(t *testing.T, body []api.Literal, l []api.Fact) [][]api.Bind {
	t.Helper()
	out, err := join.Solutions(body, l)
	if err != api.OK {
		t.Fatalf("Solutions(%s, %s): %d", brief(body), brief(show(l)), err)
	}
	return out
}

func isPlain(a api.Arg) bool { return a.Agg == api.AggNone }

func isAggregate(a api.Arg) bool { return a.Agg != api.AggNone }

// withHead is a rule with some other head.
func withHead(r api.Rule, l ...api.Arg) api.Rule {
	r.Head = l
	return r
}

// plainOf are a head's plain arguments.
func plainOf(r api.Rule) []api.Arg { return slices.DeleteFunc(slices.Clone(r.Head), isAggregate) }

// columns are a fact's values of those arguments that are so.
func columns(r api.Rule, f api.Fact, is func(api.Arg) bool) []api.Value {
	var out []api.Value
	for i, a := range r.Head {
		if is(a) {
			out = append(out, f.Args[i])
		}
	}
	return out
}

// isRising: do facts rise, each once?
func isRising(l []api.Fact) bool {
	for i := range len(l) - 1 {
		if value.CompareFacts(l[i], l[i+1]) >= 0 {
			return false
		}
	}
	return true
}

// hasSum: may a group of the rule give nothing?
func hasSum(r api.Rule) bool {
	return slices.ContainsFunc(r.Head, func(a api.Arg) bool { return a.Agg == api.AggSum })
}

// P16.2, P16.3: two groups give two facts; each group gives one, in order, each once; the facts without their aggregates' columns are those that the rule gives without its aggregates, but for groups whose sum comes to nothing.
func TestFactsWithoutAggregates(t *testing.T) {
	d := dice(11)
	some, less := 0, 0
	for range 4000 {
		r, l := d.grouped(), d.facts(40)
		got := mustGive(t, r, l)
		want, err := naive.Gives(withHead(r, plainOf(r)...), l)
		if err != api.OK || !isRising(got) {
			t.Fatalf("Gives(%s, %s) = %s; without aggregates: %d", brief(r), brief(show(l)), brief(show(got)), err)
		}
		var left []api.Fact
		for _, f := range got {
			left = append(left, api.Fact{Pred: r.Pred, Args: columns(r, f, isPlain)})
		}
		once := value.Facts(left)
		if len(once) != len(got) {
			t.Fatalf("Gives(%s, %s) = %s: two facts of one group", brief(r), brief(show(l)), brief(show(got)))
		}
		if !hasSum(r) && show(once) != show(want) {
			t.Fatalf("Gives(%s, %s) = %s; without aggregates %s", brief(r), brief(show(l)), brief(show(got)), brief(show(want)))
		}
		for _, f := range want {
			if _, ok := slices.BinarySearchFunc(once, f, value.CompareFacts); ok {
				some++
			} else if less++; !sumsAText(t, r, l, f.Args) {
				t.Fatalf("Gives(%s, %s) = %s: nothing of %s", brief(r), brief(show(l)), brief(show(got)), showFact(f))
			}
		}
	}
	if some < 4000 || less < 200 {
		t.Errorf("%d groups gave a fact, %d nothing", some, less)
	}
}

// sumsAText: is one value of one sum over the group of these plain values a text?
func sumsAText(t *testing.T, r api.Rule, l []api.Fact, plain []api.Value) bool {
	t.Helper()
	for _, binds := range mustSolve(t, r.Body, l) {
		if !slices.Equal(plainValues(r, binds), plain) {
			continue
		}
		for _, a := range r.Head {
			if a.Agg == api.AggSum && valueOf(binds, a.Term.Var).Kind == api.KText {
				return true
			}
		}
	}
	return false
}

// P16.3: each solution is in one group: the counts of a rule make together how many solutions its body has.
func TestCountsTogether(t *testing.T) {
	d := dice(12)
	most := 0
	for range 4000 {
		r, l := d.grouped(), d.facts(40)
		total := int64(0)
		for _, f := range mustGive(t, withHead(r, append(plainOf(r), count())...), l) {
			n := f.Args[len(f.Args)-1].Num
			if n < 1 {
				t.Fatalf("%s counts %s", brief(r), showFact(f))
			}
			total += n
		}
		if solutions := len(mustSolve(t, r.Body, l)); total != int64(solutions) {
			t.Fatalf("%s counts %d over %s; there are %d solutions", brief(r), total, brief(show(l)), solutions)
		}
		most = max(most, int(total))
	}
	if most < 50 {
		t.Errorf("%d solutions at most", most)
	}
}

// together is what several groups' aggregates come to when they run together, from what each comes to by itself.
func together(a api.Agg, l []api.Value) api.Value {
	switch a {
	case api.AggMin:
		return slices.MinFunc(l, value.Compare)
	case api.AggMax:
		return slices.MaxFunc(l, value.Compare)
	}
	total := num(0)
	for _, v := range l {
		total, _ = value.Arith(api.OpAdd, total, v)
	}
	return total
}

// P16.3: if one plain argument is left out, groups run together, and so do their counts, sums, least and greatest ones.
func TestGroupsRunTogether(t *testing.T) {
	d := dice(13)
	told := map[api.Agg]int{}
	for range 8000 {
		r, l := d.grouped(), d.facts(40)
		agg, plain := r.Head[slices.IndexFunc(r.Head, isAggregate)], plainOf(r)
		if len(plain) == 0 {
			continue
		}
		out := d.below(len(plain))
		rest := slices.Delete(slices.Clone(plain), out, out+1)
		fine := mustGive(t, withHead(r, append(plain[:len(plain):len(plain)], agg)...), l)
		all, err := naive.Gives(withHead(r, plain...), l)
		if err != api.OK || len(fine) < len(all) {
			continue // A sum came to nothing.
		}
		coarse := mustGive(t, withHead(r, append(rest[:len(rest):len(rest)], agg)...), l)
		left := 0
		for _, f := range coarse {
			last := len(f.Args) - 1
			var parts []api.Value
			for _, x := range fine {
				if slices.Equal(slices.Delete(slices.Clone(x.Args[:last+1]), out, out+1), f.Args[:last]) {
					parts = append(parts, x.Args[last+1])
				}
			}
			if left += len(parts); len(parts) == 0 || together(agg.Agg, parts) != f.Args[last] {
				t.Fatalf("%s, without argument %d: %s comes of %v over %s", brief(r), out, showFact(f), parts, brief(show(l)))
			}
			if len(parts) > 1 {
				told[agg.Agg]++
			}
		}
		if left != len(fine) {
			t.Fatalf("%s, without argument %d: %d groups of %d run together", brief(r), out, left, len(fine))
		}
	}
	for _, a := range []api.Agg{api.AggCount, api.AggSum, api.AggMin, api.AggMax} {
		if told[a] < 150 {
			t.Errorf("of aggregate %d groups ran together %d times alone", a, told[a])
		}
	}
}

// P16.3: a least or a greatest one is some solution's value, and no solution of the group lies below it, or above.
func TestLeastAndGreatestAreValues(t *testing.T) {
	d := dice(14)
	seen := 0
	for range 4000 {
		r, l := d.grouped(), d.facts(40)
		solutions := mustSolve(t, r.Body, l)
		for _, f := range mustGive(t, r, l) {
			for i, a := range r.Head {
				if a.Agg != api.AggMin && a.Agg != api.AggMax {
					continue
				}
				isThere := false
				for _, binds := range solutions {
					if !slices.Equal(plainValues(r, binds), columns(r, f, isPlain)) {
						continue
					}
					c := value.Compare(valueOf(binds, a.Term.Var), f.Args[i])
					isThere = isThere || c == 0
					if a.Agg == api.AggMin && c < 0 || a.Agg == api.AggMax && c > 0 {
						t.Fatalf("%s gives %s over %s, and %v", brief(r), showFact(f), brief(show(l)), binds)
					}
				}
				if seen++; !isThere {
					t.Fatalf("%s gives %s over %s: no solution's value", brief(r), showFact(f), brief(show(l)))
				}
			}
		}
	}
	if seen < 2000 {
		t.Errorf("%d least and greatest ones alone", seen)
	}
}

// shuffled are the same in another order, some of them twice.
func shuffled[T any](d *dice, l []T) []T {
	out := slices.Clone(l)
	for range d.below(4) * min(len(l), 1) {
		out = append(out, l[d.below(len(l))])
	}
	for i := range out {
		j := d.below(i + 1)
		out[i], out[j] = out[j], out[i]
	}
	return out
}

// P16.3, R5, R6: facts in any order, and twice; the body's literals in another order; the same call twice.
func TestAnyOrder(t *testing.T) {
	d := dice(15)
	for range 4000 {
		r, l := d.grouped(), d.facts(40)
		want := show(mustGive(t, r, l))
		wantGives(t, r, shuffled(&d, l), want)
		wantGives(t, r, l, want)
		slices.Reverse(r.Body)
		wantGives(t, r, l, want)
	}
}

// dirty answers a copy of a list with room behind it that must stay as it is.
func dirty[T any](l []T, spare T) []T {
	out := append(make([]T, 0, len(l)+3), l...)
	room := out[len(out):cap(out)]
	for i := range room {
		room[i] = spare
	}
	return out
}

func dirtyFacts(l []api.Fact) []api.Fact {
	out := dirty(l, nums("spare", 77))
	for i, f := range out {
		out[i].Args = dirty(f.Args, num(77))
	}
	return out
}

func dirtyExpr(e api.Expr) api.Expr {
	e.Kids = dirty(e.Kids, ex(v("Spare")))
	for i := range e.Kids {
		e.Kids[i] = dirtyExpr(e.Kids[i])
	}
	return e
}

func dirtyRule(r api.Rule) api.Rule {
	r.Head = dirty(r.Head, sum("Spare"))
	r.Body = dirty(r.Body, pos("spare"))
	for i, lit := range r.Body {
		lit.Atom.Args = dirty(lit.Atom.Args, v("Spare"))
		lit.Left, lit.Right = dirtyExpr(lit.Left), dirtyExpr(lit.Right)
		r.Body[i] = lit
	}
	return r
}

// whole writes what was handed in with its spare room.
func whole(r api.Rule, l []api.Fact) string {
	out := r.Pred + fmt.Sprint(r.Head[:cap(r.Head)]) + fmt.Sprint(r.Body[:cap(r.Body)]) + show(l[:cap(l)])
	for _, f := range l {
		out += showFact(api.Fact{Pred: f.Pred, Args: f.Args[:cap(f.Args)]})
	}
	for _, lit := range r.Body {
		out += "\n" + fmt.Sprint(lit.Atom.Args[:cap(lit.Atom.Args)]) + wholeExpr(lit.Left) + wholeExpr(lit.Right)
	}
	return out
}

func wholeExpr(e api.Expr) string {
	out := fmt.Sprint(e.Kids[:cap(e.Kids)])
	for _, kid := range e.Kids {
		out += wholeExpr(kid)
	}
	return out
}

// spoil writes over a list and its spare room.
func spoil[T any](l []T, with T) {
	l = l[:cap(l)]
	for i := range l {
		l[i] = with
	}
}

func spoilFacts(l []api.Fact) {
	for _, f := range l {
		spoil(f.Args, text("spoilt"))
	}
	spoil(l, nums("spoilt", 1))
}

// R4: what is handed in stays as it was, its spare room too; an answer shares no memory with it, nor with another answer.
func TestMemoryOfItsOwn(t *testing.T) {
	d := dice(16)
	for range 1500 {
		r, l := dirtyRule(d.grouped()), dirtyFacts(d.facts(30))
		before := whole(r, l)
		got := mustGive(t, r, l)
		told := show(got)
		if whole(r, l) != before {
			t.Fatalf("what was handed in is turned: %s over %s", brief(r), brief(show(l)))
		}
		spoilFacts(mustGive(t, r, l))
		if show(got) != told || whole(r, l) != before {
			t.Fatalf("an answer shares memory: %s over %s", brief(r), brief(show(l)))
		}
		spoilFacts(l)
		spoil(r.Head, sum("Spoilt"))
		if show(got) != told {
			t.Fatalf("an answer shares memory with what was handed in: %s", brief(told))
		}
	}
}

// R4: no two lists within one answer share memory.
func TestListsWithinAnAnswer(t *testing.T) {
	r, l := ruleOf(t, "t(P, 5, sum(S), max(M), count()) :- pay(P, S, M), S < 9."), factsOf(t, pay+" pay(d, 1, 1). pay(e, 1, 1).")
	want := mustGive(t, r, l)
	for i := range want {
		got := mustGive(t, r, l)
		spoil(got[i].Args, text("spoilt"))
		for j := range got {
			if j != i && showFact(got[j]) != showFact(want[j]) {
				t.Errorf("the facts %d and %d of %s share memory", i, j, show(want))
			}
		}
	}
	if len(want) != 4 {
		t.Errorf("Gives: %s", show(want))
	}
}
