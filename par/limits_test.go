package par_test

import (
	"fmt"
	"slices"
	"strconv"
	"strings"
	"testing"

	"pedigree/api"
	"pedigree/model"
	"pedigree/par"
	"pedigree/semi"
)

// chain are facts that lead from 0 to n.
func chain(pred string, n int) []api.Fact {
	var out []api.Fact
	for i := range int64(n) {
		out = append(out, nums(pred, i, i+1))
	}
	return out
}

// P26.3, R1: as many columns, literals, variables and bytes as there may be.
func TestWideRules(t *testing.T) {
	long := "e" + strings.Repeat("a", 119)
	r := api.Rule{Pred: "r", Head: head(many(24)...), Body: slices.Repeat([]api.Literal{pos(long, many(24)...)}, 16)}
	most, half := text(strings.Repeat("a", 200)), text(strings.Repeat("a", 100))
	deep := ex(v("X"))
	for range 7 {
		deep = op(api.OpNeg, deep)
	}
	all := []api.Rule{{Pred: "n", Head: head(api.Term{Val: num(1)})}, {Pred: "n", Head: head(api.Term{Val: num(2)})}, {Pred: "h", Body: slices.Repeat([]api.Literal{pos("n", v("_"))}, 16)}}
	for _, n := range someCrews() {
		r.Pred = "r"
		wantRunBy(t, n, []api.Rule{r}, []api.Fact{wide(long, 24)}, show([]api.Fact{wide(long, 24), wide("r", 24)}), "2 [1] 1")
		r.Pred = long
		wantRunBy(t, n, []api.Rule{r}, []api.Fact{wide(long, 24)}, showFact(wide(long, 24)), "1 [] 1")
		wantModelBy(t, n, api.Program{Rules: []api.Rule{r}}, []api.Fact{wide(long, 24)}, showFact(wide(long, 24)))
		for _, columns := range []int{0, 1, 24} {
			copied := api.Rule{Pred: "q_r", Head: head(many(columns)...), Body: []api.Literal{pos("e", many(columns)...)}}
			wantRunBy(t, n, []api.Rule{copied, copied}, []api.Fact{wide("e", columns)}, show([]api.Fact{wide("e", columns), wide("q_r", columns)}), "2 [1] 2")
		}
		wantRunBy(t, n, rulesOf(t, "p(Y) :- w(X), Y = X & X."), []api.Fact{fact("w", half), fact("w", most)}, show([]api.Fact{fact("p", most), fact("w", half), fact("w", most)}), "2 [1] 1")
		wantRunBy(t, n, []api.Rule{{Pred: "p", Head: head(v("Y")), Body: []api.Literal{pos("n", v("X")), cmp(ex(v("Y")), api.RelEq, deep)}}}, []api.Fact{nums("n", 5)}, "n(5), p(-5)", "2 [1] 1")
		wantRunBy(t, n, all, nil, "h, n(1), n(2)", "3 [2 1] 65538")
	}
}

// P26.3, P0.3, R1: a long way to go, each round with what is new alone, through one rule and through many.
func TestManyRounds(t *testing.T) {
	const long = 10000
	ones := slices.Repeat([]int{1}, long+1)
	for _, source := range []string{"r(0). r(Y) :- r(X), e(X, Y).", "r(0, 1). r(Y, 1) :- e(X, Y), r(X, 1)."} {
		for _, n := range []int{1, 16} {
			s := par.NewStop(long + 5)
			got, x := mustRun(t, rulesOf(t, source), chain("e", long), n, s)
			if len(got) != 2*long+1 || x.Rounds != long+2 || x.Joins != long+1 || !slices.Equal(x.New, ones) || left(s) != 3 {
				t.Errorf("Run(%s, ..) by %d: %d facts, %d rounds, %d joins", source, n, len(got), x.Rounds, x.Joins)
			}
			if _, _, err := par.Run(rulesOf(t, source), chain("e", long), n, par.NewStop(long+1)); err != api.ErrStopped {
				t.Errorf("Run(%s, ..) by %d with a round too few: %d", source, n, err)
			}
		}
	}
	const many = 500
	var rules []api.Rule
	for i := range many {
		rules = append(rules, api.Rule{Pred: "p" + strconv.Itoa(i+1), Head: head(v("X")), Body: []api.Literal{pos("p"+strconv.Itoa(i), v("X"))}})
	}
	var l []api.Fact
	for i := range int64(40) {
		l = append(l, nums("p0", i))
	}
	for _, n := range someCrews() {
		got, x := mustRun(t, rules, l, n, nil)
		if len(got) != 40*(many+1) || stats(x) != fmt.Sprint(many+1, slices.Repeat([]int{40}, many), 40*many) {
			t.Errorf("Run by %d: %d facts, %s", n, len(got), brief(stats(x)))
		}
	}
}

// P26.4, P26.5: as many levels as a user's program may have, over each of which a not looks down; each has two rounds.
func TestManyLevels(t *testing.T) {
	var source strings.Builder
	source.WriteString("p0(1).")
	for i := range 499 {
		fmt.Fprintf(&source, " p%d(X) :- e(X), not p%d(X).", i+1, i)
	}
	p, l := api.Program{Rules: rulesOf(t, source.String())}, factsOf(t, "e(1). e(2).")
	want, err := model.Model(p, l)
	if err != api.OK || len(want) != 2+1+499 {
		t.Fatalf("%d facts, %d", len(want), err)
	}
	for _, n := range someCrews() {
		wantModelRounds(t, n, p, l, 1000, show(want))
	}
}

// P26.3: many facts that come by recursion, and many joins that come to few facts.
func TestManyFacts(t *testing.T) {
	ring := append(chain("e", 59), nums("e", 59, 0))
	var l []api.Fact
	for i := range int64(150) {
		l = append(l, nums("n", i))
	}
	for _, n := range someCrews() {
		got, x := mustRun(t, rulesOf(t, "t(X, Y) :- e(X, Y). t(X, Z) :- t(X, Y), t(Y, Z)."), ring, n, nil)
		if len(got) != 60+3600 || stats(x) != "8 [60 60 120 240 480 960 1680] 216060" {
			t.Errorf("Run over a ring by %d: %d facts, %s", n, len(got), stats(x))
		}
		got, x = mustRun(t, rulesOf(t, "p :- n(_), n(_). q(X) :- n(X), n(_), n(0)."), l, n, nil)
		if len(got) != 150+1+150 || stats(x) != "2 [151] 45000" {
			t.Errorf("Run of many joins by %d: %d facts, %s", n, len(got), stats(x))
		}
	}
}

// P26.1, P26.3, P26.5: as many facts as a user may hand in, by the largest crew.
func TestAsManyFactsAsMayBe(t *testing.T) {
	var l []api.Fact
	for i := range int64(api.MaxFacts) {
		l = append(l, nums("e", i, i*7%api.MaxFacts))
	}
	rules := rulesOf(t, "t(X, Z) :- e(X, Y), e(Y, Z), X < Z.")
	want, x, _ := semi.Run(rules, l)
	for _, n := range []int{1, 16} {
		got, y := mustRun(t, rules, l, n, nil)
		if len(got) != len(want) || stats(y) != stats(x) || !slices.EqualFunc(got, want, func(a, b api.Fact) bool { return a.Pred == b.Pred && slices.Equal(a.Args, b.Args) }) {
			t.Errorf("Run by %d: %d facts, %s; want %d, %s", n, len(got), stats(y), len(want), stats(x))
		}
	}
	rules = rulesOf(t, "n(count(), min(X)) :- e(X, _). low(X) :- e(X, _), X < 3. rest(X) :- e(X, _), not low(X). m(count()) :- rest(X).")
	got := mustModel(t, rules, l, 16, nil)
	some := slices.DeleteFunc(slices.Clone(got), func(f api.Fact) bool { return f.Pred == "e" || f.Pred == "rest" })
	if len(got) != 2*api.MaxFacts+2 || show(some) != "low(0), low(1), low(2), m(65533), n(65536, 0)" {
		t.Errorf("%d facts, %s", len(got), brief(show(some)))
	}
}
