package estimate_test

import (
	"math"
	"slices"
	"strconv"
	"strings"
	"testing"

	"pedigree/api"
	"pedigree/estimate"
)

// isFinite: is it a number that P25.1 lets be told? A mean alone may be below 0.
func isFinite(l ...float64) bool {
	return !slices.ContainsFunc(l, func(x float64) bool { return math.IsNaN(x) || math.IsInf(x, 0) || math.Signbit(x) })
}

// P25.1, P25.3: as many rows as there may be, and so few that nothing is left of them.
func TestGreatAndSmall(t *testing.T) {
	const most = 1<<31 - 1
	r := api.Rule{Pred: "h"}
	for range api.MaxBody {
		r.Body = append(r.Body, lit(api.LPos, "e", slices.Repeat([]api.Term{v("_")}, api.MaxWide)...))
	}
	great, _ := slowPlan(r, inOrder(api.MaxBody))
	ones := slices.Repeat([]api.Term{{Val: num(1)}}, api.MaxWide)
	r.Body = nil
	for range api.MaxBody {
		r.Body = append(r.Body, lit(api.LPos, "e", ones...))
	}
	small, _ := slowPlan(r, inOrder(api.MaxBody))
	for _, l := range [][]api.Size{{size("e", most, slices.Repeat([]int{most}, 40)...)}, {size("e", 1, slices.Repeat([]int{most}, api.MaxWide)...)}, {size("e", 0, most)}, {size("e", most)}} {
		for _, p := range []api.Plan{great, small} {
			want := slowAllRows(p, l)
			wantRows(t, p, l, want...)
			if !isFinite(want...) {
				t.Errorf("%s", bits(want...))
			}
		}
	}
	if rows, _ := estimate.Rows(great, []api.Size{size("e", most)}); rows[api.MaxBody-1] < 1e149 {
		t.Errorf("the greatest rows are %g", rows[api.MaxBody-1])
	}
	tiny, err := estimate.Rows(small, []api.Size{size("e", 1, slices.Repeat([]int{most}, api.MaxWide)...)})
	if err != api.OK || tiny[0] > 1e-223 || tiny[0] == 0 || tiny[1] != 0 || tiny[api.MaxBody-1] != 0 {
		t.Errorf("the least rows are %s, %d", bits(tiny...), err)
	}
}

// inOrder are the numbers below n.
func inOrder(n int) []int {
	var out []int
	for i := range n {
		out = append(out, i)
	}
	return out
}

// largeRule is one of as many literals, columns and variables as may be, the last ones ready first.
func largeRule() api.Rule {
	var vars []api.Term
	for i := range api.MaxVars {
		vars = append(vars, v("V"+strconv.Itoa(i)))
	}
	r := api.Rule{Pred: "h", Head: head(vars...)}
	for i := range 10 {
		r.Body = append(r.Body, test(ex(vars[i]), api.RelEq, op(api.OpAdd, ex(vars[i+1]), ex(vars[i+2]))))
	}
	// what the equations do not give stands in the atoms behind them
	some := append(slices.Repeat([]api.Term{v("_")}, 10), vars[10:]...)
	turned := slices.Clone(some)
	slices.Reverse(turned)
	r.Body = append(r.Body, lit(api.LNot, "f", vars...), test(ex(vars[3]), api.RelNe, ex(vars[4])), lit(api.LPos, "e", vars...))
	r.Body = append(r.Body, lit(api.LPos, "e", some...), lit(api.LPos, "e", turned...), lit(api.LPos, "p", vars[11]))
	return r
}

// P25.3, P25.5: rules as large as they may be.
func TestLargeRules(t *testing.T) {
	r := largeRule()
	if len(r.Body) != api.MaxBody || slowRuleCode(r) != api.OK {
		t.Fatalf("%s: %d literals, %d", show(r), len(r.Body), slowRuleCode(r))
	}
	d := dice(11)
	for range 300 {
		l := []api.Size{{Pred: "e", Rows: d.count()}, {Pred: "p", Rows: d.count()}}
		for range d.below(api.MaxWide + 3) {
			l[0].Distinct = append(l[0].Distinct, d.count())
		}
		var body []api.Literal
		order := slowOrder(r, l)
		for _, i := range order {
			body = append(body, r.Body[i])
		}
		got, err := estimate.Order(r, l)
		if want := show(api.Rule{Pred: "h", Head: r.Head, Body: body}); err != api.OK || show(got) != want {
			t.Fatalf("Order with %s = %s, %d; want %s", tellSizes(l), show(got), err, want)
		}
		p, _ := slowPlan(r, order)
		wantRows(t, p, l, slowAllRows(p, l)...)
	}
}

// R1, P25.2: very many facts, names and columns, and long texts.
func TestManyFacts(t *testing.T) {
	const many = 200000
	var l []api.Fact
	for i := range many {
		l = append(l, fact("e", num(int64(i%1000)), num(int64(i%7)), num(int64(i%2000))), fact("n"+strconv.Itoa(i%50000)))
	}
	got := estimate.Sizes(l)
	if len(got) != 50001 || tellSizes(got[:1]) != tellSizes([]api.Size{size("e", 14000, 1000, 7, 2000)}) || tellSizes(got[1:2]) != `"n0" 1 []` {
		t.Errorf("%d sizes, the first ones %s", len(got), tellSizes(got[:2]))
	}
	mean, spread, n := estimate.Share(l, "e", 1)
	if n != 14000 || mean != 3 || math.Abs(spread-4) > 1e-9 {
		t.Errorf("the share is %g, %g, %d", mean, spread, n)
	}
	long := strings.Repeat("long ", 1<<20)
	l = []api.Fact{fact(long, text(long)), fact(long, text(long+"a")), fact(long, text(long))}
	for i := range 3000 {
		l = append(l, fact("empty"), fact("one", num(int64(i))))
	}
	for _, last := range []int64{1, 2, 1} {
		l = append(l, fact("wide", append(slices.Repeat([]api.Value{num(0)}, many), num(last))...))
	}
	got = estimate.Sizes(l)
	if len(got) != 4 || got[0].Rows != 1 || got[1].Pred != long || got[1].Rows != 2 || got[1].Distinct[0] != 2 || got[2].Rows != 3000 || got[3].Rows != 2 || len(got[3].Distinct) != many+1 {
		t.Errorf("%d sizes", len(got))
	}
	if all := got[3].Distinct; all[0] != 1 || all[many-1] != 1 || all[many] != 2 {
		t.Errorf("the columns of the wide ones: %d .. %d", all[0], all[many])
	}
	wantShare(t, l[6003:], "wide", many, 1.5, 0.25, 2)
}

// R1, P25.3, P25.5: very many sizes, of which the first of a name is taken.
func TestManySizes(t *testing.T) {
	var l []api.Size
	for i := range 300000 {
		l = append(l, size("s"+strconv.Itoa(i), i, i))
	}
	l = append(l, chapterSizes()...)
	l = append(l, l...)
	wantRows(t, planOf(t, "h(X) :- e(X, Y), p(Y), s299999(Z)."), l, 100, 100, 29999900)
	wantOrder(t, "h(X) :- s299999(Z), e(X, Y), p(Y), s0(X).", l, "h(X) :- s0(X), s299999(Z), e(X, Y), p(Y).")
	last := &l[len(l)-1]
	last.Distinct = []int{-1}
	wantNoRows(t, planOf(t, "h(X) :- p(X)."), l, api.ErrArg)
}
