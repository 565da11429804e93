package estimate_test

import (
	"fmt"
	"math"
	"slices"
	"strconv"
	"strings"
	"testing"

	"pedigree/api"
	"pedigree/estimate"
	"pedigree/parse"
	"pedigree/plan"
	"pedigree/print"
)

func num(n int64) api.Value { return api.Value{Kind: api.KNum, Num: n} }

func text(s string) api.Value { return api.Value{Kind: api.KText, Text: s} }

func fact(pred string, l ...api.Value) api.Fact { return api.Fact{Pred: pred, Args: l} }

// nums are facts of one number each.
func nums(pred string, l ...int64) []api.Fact {
	var out []api.Fact
	for _, n := range l {
		out = append(out, fact(pred, num(n)))
	}
	return out
}

func v(name string) api.Term { return api.Term{Var: name} }

func ex(t api.Term) api.Expr { return api.Expr{Term: t} }

func op(o api.Op, kids ...api.Expr) api.Expr { return api.Expr{Op: o, Kids: kids} }

func lit(kind api.LitKind, pred string, l ...api.Term) api.Literal {
	return api.Literal{Kind: kind, Atom: api.Atom{Pred: pred, Args: l}}
}

func test(left api.Expr, rel api.Rel, right api.Expr) api.Literal {
	return api.Literal{Kind: api.LCmp, Rel: rel, Left: left, Right: right}
}

func head(l ...api.Term) []api.Arg {
	var out []api.Arg
	for _, x := range l {
		out = append(out, api.Arg{Term: x})
	}
	return out
}

func size(pred string, rows int, distinct ...int) api.Size {
	return api.Size{Pred: pred, Rows: rows, Distinct: distinct}
}

// chapterSizes are the S of the chapter's examples.
func chapterSizes() []api.Size {
	return []api.Size{size("e", 100, 10, 50), size("p", 8, 8), size("big", 1000, 1000, 0)}
}

func ruleOf(t *testing.T, source string) api.Rule {
	t.Helper()
	r, fault := parse.Rule(source)
	if (fault != api.Fault{}) {
		t.Fatalf("%s: %v", source, fault)
	}
	return r
}

func factsOf(t *testing.T, source string) []api.Fact {
	t.Helper()
	l, fault := parse.Facts(source)
	if (fault != api.Fault{}) {
		t.Fatalf("%s: %v", source, fault)
	}
	return l
}

// show writes a rule as a source has it; one by hand may be none as it may be.
func show(r api.Rule) string {
	s, err := print.Rule(r)
	if err != api.OK {
		return fmt.Sprintf("%+v", r)
	}
	return strings.TrimSpace(s)
}

// bits tells floats so that unlike ones are told unlike, each with its bits.
func bits(l ...float64) string {
	var out []string
	for _, x := range l {
		out = append(out, strconv.FormatFloat(x, 'g', -1, 64)+"="+strconv.FormatUint(math.Float64bits(x), 16))
	}
	return strings.Join(out, " ")
}

func tellSizes(l []api.Size) string {
	var out []string
	for _, s := range l {
		out = append(out, fmt.Sprintf("%q %d %v", s.Pred, s.Rows, s.Distinct))
	}
	return strings.Join(out, "; ")
}

func tellSteps(p api.Plan) string {
	return fmt.Sprintf("%s by %+v", show(p.Rule), p.Steps)
}

func planOf(t *testing.T, source string) api.Plan {
	t.Helper()
	p, err := plan.Make(ruleOf(t, source), nil, -1)
	if err != api.OK {
		t.Fatalf("%s: %d", source, err)
	}
	return p
}

// wantRows asks for the rows of a plan's steps, bit by bit, and for their sum as its cost.
func wantRows(t *testing.T, p api.Plan, l []api.Size, want ...float64) {
	t.Helper()
	got, err := estimate.Rows(p, l)
	if err != api.OK || bits(got...) != bits(want...) {
		t.Errorf("Rows(%s, %s) = %s, %d; want %s", tellSteps(p), tellSizes(l), bits(got...), err, bits(want...))
	}
	sum := 0.0
	for _, x := range want {
		sum += x
	}
	if cost, err := estimate.Cost(p, l); err != api.OK || bits(cost) != bits(sum) {
		t.Errorf("Cost(%s, %s) = %s, %d; want %s", tellSteps(p), tellSizes(l), bits(cost), err, bits(sum))
	}
}

// wantOrder asks for a rule with its body in another order, told as a source.
func wantOrder(t *testing.T, source string, l []api.Size, want string) {
	t.Helper()
	r, err := estimate.Order(ruleOf(t, source), l)
	if err != api.OK || show(r) != want {
		t.Errorf("Order(%s, %s) = %s, %d; want %s", source, tellSizes(l), show(r), err, want)
	}
}

func wantSizes(t *testing.T, l []api.Fact, want ...api.Size) {
	t.Helper()
	if got := estimate.Sizes(l); tellSizes(got) != tellSizes(want) {
		t.Errorf("Sizes(%v) = %s; want %s", l, tellSizes(got), tellSizes(want))
	}
}

func wantShare(t *testing.T, l []api.Fact, pred string, col int, mean, spread float64, n int) {
	t.Helper()
	gotMean, gotSpread, gotN := estimate.Share(l, pred, col)
	if bits(gotMean, gotSpread) != bits(mean, spread) || gotN != n {
		t.Errorf("Share(%v, %q, %d) = %s, %d; want %s, %d", l, pred, col, bits(gotMean, gotSpread), gotN, bits(mean, spread), n)
	}
}

// P25.2: the chapter's example, and what makes facts, values and names unlike.
func TestSizes(t *testing.T) {
	wantSizes(t, factsOf(t, "e(1, a). e(2, a). e(1, a). p. e(3)."), size("e", 3, 3, 1), size("p", 1))
	wantSizes(t, nil)
	wantSizes(t, []api.Fact{})
	wantSizes(t, factsOf(t, "p. p. p."), size("p", 1))
	wantSizes(t, factsOf(t, "b(1). a(1). c(1). a(2). ab(1). aB(1)."), size("a", 2, 2), size("aB", 1, 1), size("ab", 1, 1), size("b", 1, 1), size("c", 1, 1))
	// a text is no number; what stands in two columns is not the same as what stands there otherwise cut
	wantSizes(t, factsOf(t, `e(1). e("1"). e("01"). e(-1).`), size("e", 4, 4))
	wantSizes(t, factsOf(t, `e(ab, c). e(a, bc). e("", abc). e(abc, "").`), size("e", 4, 4, 4))
	wantSizes(t, factsOf(t, "e(1, 2). e(2, 1). e(1, 1). e(2, 2)."), size("e", 4, 2, 2))
	wantSizes(t, factsOf(t, "e(1, 2, 3). e(1, 2, 4). e(1, 5, 4). e(6, 2, 3)."), size("e", 4, 2, 2, 2))
	// tuples of which one is the beginning of the other are two, whichever comes first
	wantSizes(t, factsOf(t, "e. e(1). e(1, 1). e(1, 1, 1). e(1). e."), size("e", 4, 1, 1, 1))
	wantSizes(t, factsOf(t, "e(1, 1, 1). e(1, 1). e(1). e. e(1, 1)."), size("e", 4, 1, 1, 1))
	wantSizes(t, factsOf(t, "e(1, 2). e(1, 3). e(2)."), size("e", 3, 2, 2))
	// what stands in facts of one name is nothing to those of another
	wantSizes(t, factsOf(t, "e(1, 2). f(1, 2). f(2, 2). e(1, 3)."), size("e", 2, 1, 2), size("f", 2, 2, 1))
}

// P25.2: whatever the facts are.
func TestSizesOfOddFacts(t *testing.T) {
	odd := []api.Value{{}, {Kind: 9}, {Kind: -1}, {Kind: api.KNum, Text: "a"}, {Kind: api.KNum, Text: "b"}, num(0), {Kind: api.KText, Num: 1, Text: "a"}, text("a"), text(""), {Num: 1}, {Text: "a"}, text(strings.Repeat("a", 300))}
	var l []api.Fact
	for _, x := range odd {
		l = append(l, fact("e", x), fact("e", x), fact("e", num(1), x))
	}
	wantSizes(t, l, size("e", 2*len(odd), len(odd)+1, len(odd)))
	wantSizes(t, append(l, fact("e", num(1))), size("e", 2*len(odd)+1, len(odd)+1, len(odd)))
	names := []string{"q_x", "E", "", "_", "not", "\xff", "a b", "\x00", strings.Repeat("e", 200), "é"}
	l = nil
	var want []api.Size
	for _, name := range names {
		l = append(l, fact(name, num(1)), fact(name))
	}
	slices.Sort(names)
	for _, name := range names {
		want = append(want, size(name, 2, 1))
	}
	wantSizes(t, l, want...)
	wantSizes(t, []api.Fact{{}, {Args: []api.Value{{}}}, {}}, size("", 2, 1))
}

// P25.3, P25.4: the chapter's examples.
func TestRowsOfTheChapter(t *testing.T) {
	s := chapterSizes()
	wantRows(t, planOf(t, "h(X, Y) :- e(X, Y)."), s, 100)
	four := planOf(t, "h(X) :- p(X), e(X, Y), Y != a, not p(Y).")
	wantRows(t, four, s, 8, 80, 72, 36)
	if cost, err := estimate.Cost(four, s); cost != 196 || err != api.OK {
		t.Errorf("the cost is %g, %d", cost, err)
	}
	two := 2.0
	third := two / 3
	nine := third * 9
	wantRows(t, planOf(t, "h(X) :- e(X, 3), X < 2, Z = X, Z != 1."), s, 2, third, third, nine/10)
	wantRows(t, planOf(t, "h(X) :- e(X, Y)."), nil, 0)
	wantRows(t, planOf(t, "h(1)."), s)
	wantRows(t, planOf(t, "h(1)."), nil)
}

// P25.3: each kind of step, and each comparison.
func TestRowsOfEachStep(t *testing.T) {
	s := []api.Size{size("e", 7, 3, 2), size("f", 100, 10, 20, 5), size("g", 5), size("n", 1, 1)}
	seven, ten := 7.0, 10.0
	for rel, want := range map[string]float64{"=": seven / 10, "!=": seven * 9 / 10, "<": seven / 3, "<=": seven / 3, ">": seven / 3, ">=": seven / 3} {
		wantRows(t, planOf(t, "h(X) :- e(X, Y), X "+rel+" Y."), s, 7, want)
		wantRows(t, planOf(t, "h(X) :- e(X, Y), Y + 1 "+rel+" X * 2."), s, 7, want)
	}
	wantRows(t, planOf(t, "h(X) :- e(X, _), Y = X, Z = Y + X."), s, 7, 7, 7)
	wantRows(t, planOf(t, "h(Y) :- Y = 5, 6 = X, X = Y."), s, 1, 1, 1/ten)
	wantRows(t, planOf(t, "h :- not e(_, _), not f(1, 2, 3), not nobody, 1 < 2."), s, 0.5, 0.25, 0.125, 0.125/3)
	// a look by any of the columns; what is known by a value or by a variable; a blank, or one variable twice, is not
	wantRows(t, planOf(t, "h(X) :- f(1, X, Y)."), s, ten)
	wantRows(t, planOf(t, "h(X) :- f(X, 1, Y)."), s, 5)
	wantRows(t, planOf(t, "h(X) :- f(X, _, 1)."), s, 20)
	wantRows(t, planOf(t, "h(X) :- f(X, 1, 1)."), s, 1)
	wantRows(t, planOf(t, "h :- f(1, 2, 3)."), s, 0.1)
	wantRows(t, planOf(t, "h(X) :- f(X, X, _)."), s, 100)
	wantRows(t, planOf(t, "h(X) :- e(X, _), f(X, X, _)."), s, 7, 3.5)
	wantRows(t, planOf(t, "h(X) :- e(X, Y), f(Y, _, X)."), s, 7, 14)
	// atoms without columns, and of facts that are not there
	wantRows(t, planOf(t, "h :- g, g, n(1), n(_)."), s, 5, 25, 25, 25)
	wantRows(t, asWritten(t, "h(X) :- e(X, Y), nobody(X, Y), e(X, 1), not g, X < Y, Z = X."), s, 7, 0, 0, 0, 0, 0)
	// an aggregate is nothing to the rows
	wantRows(t, asWritten(t, "h(count(), sum(X)) :- e(X, Y), not g, X < Y."), s, 7, 3.5, 3.5/3)
}

// P25.3: plans in another order than their bodies, and than plan.Make finds.
func TestRowsInAnyOrder(t *testing.T) {
	s := chapterSizes()
	r := ruleOf(t, "h(X) :- e(X, Y), p(Y), Y > 3.")
	p, _ := plan.Make(r, nil, 1)
	third := 8.0 / 3
	product := third * 100
	wantRows(t, p, s, 8, third, product/50)
	late := api.Plan{Rule: r, Steps: []api.Step{{Kind: api.StepScan, Lit: 1, Gives: []string{"Y"}}, {Kind: api.StepLook, Lit: 0, Known: 2, Gives: []string{"X"}}, {Kind: api.StepTest, Lit: 2}}}
	wantRows(t, late, s, 8, 16, 16.0/3)
}

// P25.3: the first size of a name is taken; a worth that is 0 or not there is 1; sizes of other names are nothing.
func TestSizeOfAnAtom(t *testing.T) {
	has := planOf(t, "h(X) :- p(X), e(X, 1).")
	wantRows(t, has, []api.Size{size("p", 8), size("e", 100, 10, 50), size("e", 7, 7, 7), size("p", 9, 9)}, 8, 8*100/10/50.0)
	wantRows(t, has, []api.Size{size("e", 100, 0, 50), size("p", 8)}, 8, 16)
	wantRows(t, has, []api.Size{size("e", 100, 10, 0), size("p", 8)}, 8, 80)
	wantRows(t, has, []api.Size{size("e", 100, 10), size("p", 8)}, 8, 80)
	wantRows(t, has, []api.Size{size("e", 100), size("p", 8)}, 8, 800)
	wantRows(t, has, []api.Size{size("e", 100, 1, 1), size("p", 8)}, 8, 800)
	wantRows(t, has, []api.Size{size("e", 100, 10, 50, 2, 3, 0, 9), size("p", 8)}, 8, 1.6)
	wantRows(t, has, []api.Size{size("e", 0, 10, 50), size("p", 8)}, 8, 0)
	wantRows(t, has, []api.Size{size("e", 100, 10, 50)}, 0, 0)
	wantRows(t, has, []api.Size{size("p", 8), {}, size("P", 5), size("E ", 5), size("\xff", 5)}, 8, 0)
	wantRows(t, has, []api.Size{{}, size("", 9), size("p", 0), size("e", 100, 10, 50), size("p", 8)}, 0, 0)
	// more unlike values than rows are taken as they are
	wantRows(t, has, []api.Size{size("p", 1), size("e", 1, 1<<31-1, 2)}, 1, 1.0/(1<<31-1)/2)
	wantRows(t, has, []api.Size{size("p", 1<<31-1), size("e", 1<<31-1, 1<<31-1, 1)}, 1<<31-1, 1<<31-1)
	// a comparison has no atom, whatever is said of the empty name
	wantRows(t, asWritten(t, "h(X) :- p(X), X < 3, Z = X, Z = 1."), []api.Size{size("", 9, 9, 9), size("p", 3)}, 3, 1, 1, 0.1)
}

// P25.3: each operation is rounded by itself, in the order in which the table has it.
func TestRoundings(t *testing.T) {
	rows, three, seven := 5.0, 3.0, 7.0
	s := []api.Size{size("a", 5), size("c", 1, 3, 7, 11), size("d", 1, 11, 7, 3)}
	eleven := 11.0
	up, down := rows/three, rows/eleven
	up, down = up/seven, down/seven
	up, down = up/eleven, down/three
	if up == down {
		t.Fatalf("the order of the columns cannot be seen")
	}
	wantRows(t, planOf(t, "h :- a, c(1, 1, 1)."), s, 5, up)
	wantRows(t, planOf(t, "h :- a, d(1, 1, 1)."), s, 5, down)
	differ := 0
	for n := range 100 {
		rows := float64(n)
		nine := rows * 9
		wantRows(t, asWritten(t, "h :- a, 1 != 2."), []api.Size{size("a", n)}, rows, nine/10)
		tenth, once := rows/10, rows*0.9
		if nine/10 != tenth*9 && nine/10 != once {
			differ++
		}
	}
	if differ < 5 {
		t.Errorf("by %d numbers alone the ways of rounding are told apart", differ)
	}
	// what is lost in a sum hangs on its order: three ones ahead of what is great are not
	cost, err := estimate.Cost(asWritten(t, "h :- one, one, one, big, big."), []api.Size{size("one", 1), size("big", 1<<27)})
	if want := float64(1<<54 + 1<<27 + 4); err != api.OK || cost != want {
		t.Errorf("the cost is %s, %d; want %s", bits(cost), err, bits(want))
	}
}

// P25.5: the chapter's examples.
func TestOrderOfTheChapter(t *testing.T) {
	s := chapterSizes()
	wantOrder(t, "h(X) :- e(X, Y), p(Y), Y > 3.", s, "h(X) :- p(Y), Y > 3, e(X, Y).")
	wantOrder(t, "h(X) :- big(X, Y), p(X), nobody(Y).", s, "h(X) :- nobody(Y), big(X, Y), p(X).")
	wantOrder(t, "h(Z) :- Z = X + 1, not p(X), e(X, _).", s, "h(Z) :- e(X, _), not p(X), Z = X + 1.")
}

// P25.5: what is taken first, of several with the same rows, and what is not ready yet.
func TestOrder(t *testing.T) {
	s := append(chapterSizes(), size("one", 1, 1), size("two", 2, 2), size("three", 3, 3))
	for source, want := range map[string]string{
		"h(1).":                                "h(1).",
		"h(X) :- p(X).":                        "h(X) :- p(X).",
		"h(X, Y) :- p(X), p(Y).":               "h(X, Y) :- p(X), p(Y).",
		"h(X, Y) :- three(X), two(Y), one(_).": "h(X, Y) :- one(_), two(Y), three(X).",
		// one row is no more than what a comparison leaves as it is: the least number decides
		"h(X) :- one(X), Z = 1, one(Z).": "h(X) :- one(X), Z = 1, one(Z).",
		"h(X) :- Z = 1, one(X), one(Z).": "h(X) :- Z = 1, one(X), one(Z).",
		// an equation leaves less than another test, that less than a not, that less than an unlikeness
		"h :- 1 != 2, not ghost, 1 <= 2, 1 = 2.": "h :- 1 = 2, 1 <= 2, not ghost, 1 != 2.",
		// what is equated comes when the other side is known, from either side, one behind the other
		"h(Z) :- Z = Y + 1, X = Y, p(X).":         "h(Z) :- p(X), X = Y, Z = Y + 1.",
		"h(Z) :- Y + 1 = Z, Y = 2.":               "h(Z) :- Y = 2, Y + 1 = Z.",
		"h(X) :- X < Y, two(Y), Z = X, three(X).": "h(X) :- two(Y), three(X), X < Y, Z = X.",
		// all columns by one variable, known by then; a blank is never known
		"h(X) :- big(X, Y), p(X), e(X, Y).": "h(X) :- p(X), big(X, Y), e(X, Y).",
		"h(X) :- e(X, _), e(_, X), p(X).":   "h(X) :- p(X), e(_, X), e(X, _).",
		"h(X) :- e(_, X), e(X, X).":         "h(X) :- e(_, X), e(X, X).",
		// a value is known from the beginning
		"h(X) :- p(X), e(X, 3).":                              "h(X) :- e(X, 3), p(X).",
		"h(X, count()) :- e(X, Y), not two(Y), p(Y), X >= Y.": "h(X, count()) :- p(Y), not two(Y), e(X, Y), X >= Y.",
	} {
		wantOrder(t, source, s, want)
	}
	wantOrder(t, "h(X) :- p(X), e(X, Y), Y = 3.", nil, "h(X) :- p(X), e(X, Y), Y = 3.")
	wantOrder(t, "h(X) :- Z = 1, p(X), e(X, Y), Y = Z.", nil, "h(X) :- p(X), Z = 1, e(X, Y), Y = Z.")
}

// P25.6: the chapter's examples, and which numbers count.
func TestShare(t *testing.T) {
	l := factsOf(t, "e(1, 2). e(2, 4). e(2, 4). e(5, a).")
	wantShare(t, l, "e", 1, 3, 1, 2)
	ten, four := 8.0, 3.0
	mean := ten / four // 1, 2, 5
	wantShare(t, l, "e", 0, mean, spreadOf(mean, 1, 2, 5), 3)
	for _, col := range []int{-1, 2, math.MaxInt, math.MinInt} {
		wantShare(t, l, "e", col, 0, 0, 0)
	}
	for _, name := range []string{"f", "", "E", "ee"} {
		wantShare(t, l, name, 0, 0, 0, 0)
	}
	wantShare(t, nil, "e", 0, 0, 0, 0)
	wantShare(t, factsOf(t, "e(a). e(b)."), "e", 0, 0, 0, 0)
	wantShare(t, factsOf(t, "e(7). f(100). e. e(7, 7)."), "e", 0, 7, 0, 2)
	wantShare(t, factsOf(t, "e(7). f(100). e. e(7, 7)."), "e", 1, 7, 0, 1)
	wantShare(t, nums("e", -3, 3), "e", 0, 0, 9, 2)
	wantShare(t, nums("e", 0), "e", 0, 0, 0, 1)
	// one number in unlike facts counts as often as they are
	wantShare(t, factsOf(t, "e(1, a). e(1, b). e(1, a). e(4, a)."), "e", 0, 2, 2, 3)
}

// spreadOf works the spread out for a mean and numbers.
func spreadOf(mean float64, l ...float64) float64 {
	sum := 0.0
	for _, x := range l {
		off := x - mean
		square := off * off
		sum += square / float64(len(l))
	}
	return sum
}

// P25.6: values that may not be do not count, wherever else they make facts unlike.
func TestShareOfOddFacts(t *testing.T) {
	wrong := []api.Value{{}, {Num: 3}, {Kind: api.KNum, Num: 3, Text: "a"}, {Kind: api.KText, Num: 3}, {Kind: 9, Num: 3}, text("3"), {Kind: -1, Num: 3}}
	var l []api.Fact
	for _, x := range wrong {
		l = append(l, fact("e", x, num(3)), fact("e", num(5), x), fact("e", num(5), x))
	}
	wantShare(t, l, "e", 0, 5, 0, len(wrong))
	wantShare(t, l, "e", 1, 3, 0, len(wrong))
	wantShare(t, []api.Fact{fact("", num(2)), fact("\xff", num(9)), fact("", num(2))}, "", 0, 2, 0, 1)
	wantShare(t, []api.Fact{fact("not a name", num(2))}, "not a name", 0, 2, 0, 1)
}

// P25.6: the numbers are added up in the order of facts, each time rounded.
func TestShareRounds(t *testing.T) {
	const big = 1 << 53
	// -2^53, 1, 1, 2^53: from below on nothing is lost; from above on both ones are
	wantShare(t, nums("e", big, 1, -big, 1, 1), "e", 0, 1.0/3, spreadOf(1.0/3, -big, 1, big), 3)
	pairs := []api.Fact{fact("e", num(1), num(big)), fact("e", num(2), num(1)), fact("e", num(3), num(1)), fact("e", num(4), num(-big))}
	wantShare(t, pairs, "e", 1, 0, spreadOf(0, big, 1, 1, -big), 4)
	slices.Reverse(pairs)
	wantShare(t, pairs, "e", 1, 0, spreadOf(0, big, 1, 1, -big), 4)
	// each number is turned into a float by itself
	wantShare(t, nums("e", big+1, big), "e", 0, big, 0, 2)
	least, greatest := float64(math.MinInt64), float64(math.MaxInt64)
	wantShare(t, nums("e", math.MaxInt64, math.MinInt64), "e", 0, 0, spreadOf(0, least, greatest), 2)
	wantShare(t, nums("e", math.MinInt64), "e", 0, least, 0, 1)
	wantShare(t, nums("e", math.MaxInt64), "e", 0, greatest, 0, 1)
}
