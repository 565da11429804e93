package join_test

import (
	"fmt"
	"slices"
	"strconv"
	"strings"
	"testing"

	"pedigree/api"
	"pedigree/join"
	"pedigree/parse"
	"pedigree/plan"
	"pedigree/print"
	"pedigree/value"
)

const chain = "p(X, Z) :- e(X, Y), e(Y, Z)."

func num(n int64) api.Value { return api.Value{Kind: api.KNum, Num: n} }

func text(s string) api.Value { return api.Value{Kind: api.KText, Text: s} }

func fact(pred string, l ...api.Value) api.Fact { return api.Fact{Pred: pred, Args: l} }

// nums is a fact of numbers.
func nums(pred string, l ...int64) api.Fact {
	f := api.Fact{Pred: pred}
	for _, n := range l {
		f.Args = append(f.Args, num(n))
	}
	return f
}

func v(name string) api.Term { return api.Term{Var: name} }

func n(k int64) api.Term { return api.Term{Val: num(k)} }

func ex(t api.Term) api.Expr { return api.Expr{Term: t} }

func op(o api.Op, kids ...api.Expr) api.Expr { return api.Expr{Op: o, Kids: kids} }

func pos(pred string, l ...api.Term) api.Literal {
	return api.Literal{Kind: api.LPos, Atom: api.Atom{Pred: pred, Args: l}}
}

func not(pred string, l ...api.Term) api.Literal {
	return api.Literal{Kind: api.LNot, Atom: api.Atom{Pred: pred, Args: l}}
}

func cmp(left api.Expr, rel api.Rel, right api.Expr) api.Literal {
	return api.Literal{Kind: api.LCmp, Rel: rel, Left: left, Right: right}
}

func head(l ...api.Term) []api.Arg {
	var out []api.Arg
	for _, t := range l {
		out = append(out, api.Arg{Term: t})
	}
	return out
}

// many are so many unlike variables.
func many(count int) []api.Term {
	var out []api.Term
	for i := range count {
		out = append(out, v("V"+strconv.Itoa(i)))
	}
	return out
}

func factsOf(t *testing.T, source string) []api.Fact {
	t.Helper()
	l, fault := parse.Facts(source)
	if (fault != api.Fault{}) {
		t.Fatalf("%s: %v", source, fault)
	}
	return l
}

func ruleOf(t *testing.T, source string) api.Rule {
	t.Helper()
	r, fault := parse.Rule(source)
	if (fault != api.Fault{}) {
		t.Fatalf("%s: %v", source, fault)
	}
	return r
}

func bodyOf(t *testing.T, source string) []api.Literal {
	t.Helper()
	if source == "" {
		return nil
	}
	return ruleOf(t, "nobody :- "+source+".").Body
}

// planOf is a plan that Make makes; first as there.
func planOf(t *testing.T, r api.Rule, first int) api.Plan {
	t.Helper()
	p, err := plan.Make(r, nil, first)
	if err != api.OK {
		t.Fatalf("Make(%s, none, %d): %d", brief(r), first, err)
	}
	return p
}

func worldOf(t *testing.T, l ...api.Fact) *join.World {
	t.Helper()
	w, err := join.NewWorld(l...)
	if w == nil || err != api.OK {
		t.Fatalf("NewWorld(%s) = %v, %d", brief(l), w, err)
	}
	return w
}

func tuple(l []api.Value) string {
	var out []string
	for _, v := range l {
		s, _ := value.Show(v)
		out = append(out, s)
	}
	return strings.Join(out, " ")
}

// show writes facts as a row of a test has them.
func show(l []api.Fact) string {
	var out []string
	for _, f := range l {
		out = append(out, strings.TrimSuffix(f.Pred+" "+tuple(f.Args), " "))
	}
	return strings.Join(out, ", ")
}

// showBinds writes solutions likewise; one without binds is ().
func showBinds(l [][]api.Bind) string {
	var out []string
	for _, binds := range l {
		var words []string
		for _, b := range binds {
			words = append(words, b.Var+"="+tuple([]api.Value{b.Val}))
		}
		out = append(out, "("+strings.Join(words, " ")+")")
	}
	return strings.Join(out, " ")
}

// brief cuts off what is too long for a remark.
func brief(x any) string {
	const most = 900
	out := fmt.Sprintf("%+v", x)
	if len(out) > most {
		return out[:most] + " .."
	}
	return out
}

// briefPlan writes a plan's rule, and the literals in the order in which they are taken.
func briefPlan(p api.Plan) string {
	source, err := print.Rule(p.Rule)
	if err != api.OK {
		source = brief(p.Rule)
	}
	var order []int
	for _, s := range p.Steps {
		order = append(order, s.Lit)
	}
	return brief(source + " by " + fmt.Sprint(order))
}

func wantFacts(t *testing.T, w *join.World, want string) {
	t.Helper()
	if got := show(w.Facts()); got != want {
		t.Errorf("Facts = %s, want %s", brief(got), brief(want))
	}
}

func wantAdd(t *testing.T, w *join.World, f api.Fact, ok bool, err api.Errno) {
	t.Helper()
	if gotOK, gotErr := w.Add(f); gotOK != ok || gotErr != err {
		t.Errorf("Add(%s) = %v, %d; want %v, %d", brief(f), gotOK, gotErr, ok, err)
	}
}

// whole are the spans of all that is there.
func whole(w *join.World, r api.Rule) ([]int, []int) {
	from, to := make([]int, len(r.Body)), make([]int, len(r.Body))
	for i, l := range r.Body {
		if l.Kind == api.LPos {
			to[i] = w.Size(l.Atom.Pred)
		}
	}
	return from, to
}

func wantRun(t *testing.T, w *join.World, p api.Plan, from, to []int, want string) {
	t.Helper()
	if l, err := w.Run(p, from, to); err != api.OK || show(l) != want {
		t.Errorf("Run(%s, %v, %v) = %s, %d; want %s", briefPlan(p), from, to, brief(show(l)), err, brief(want))
	}
}

// wantWhole runs a rule over whole spans, as Make plans it.
func wantWhole(t *testing.T, w *join.World, r api.Rule, want string) {
	t.Helper()
	from, to := whole(w, r)
	wantRun(t, w, planOf(t, r, -1), from, to, want)
}

func wantRefused(t *testing.T, w *join.World, p api.Plan, from, to []int, code api.Errno) {
	t.Helper()
	if l, err := w.Run(p, from, to); err != code || len(l) != 0 {
		t.Errorf("Run(%s, %v, %v) = %s, %d; want %d and no facts", briefPlan(p), brief(from), brief(to), brief(show(l)), err, code)
	}
}

// the chapter's world.
func edges(t *testing.T) *join.World {
	t.Helper()
	return worldOf(t, factsOf(t, "e(1, 2). e(2, 3). e(1, 3). f(3).")...)
}

// P13.1 to P13.5: the chapter's examples.
func TestExamples(t *testing.T) {
	w := edges(t)
	if w.Size("e") != 3 || w.Size("g") != 0 || !w.Has(nums("e", 2, 3)) || w.Has(nums("e", 3, 2)) {
		t.Errorf("Size %d, %d, Has %v, %v", w.Size("e"), w.Size("g"), w.Has(nums("e", 2, 3)), w.Has(nums("e", 3, 2)))
	}
	a := planOf(t, ruleOf(t, chain), -1)
	wantRun(t, w, a, []int{0, 0}, []int{3, 3}, "p 1 3")
	wantAdd(t, w, nums("e", 1, 2), false, api.OK)
	wantAdd(t, w, nums("e", 1), false, api.ErrArity)
	wantAdd(t, w, fact("e", num(3), api.Value{Kind: 7}), false, api.ErrValue)
	wantAdd(t, w, nums("e", 3, 1), true, api.OK)
	wantRun(t, w, a, []int{0, 0}, []int{4, 4}, "p 1 3, p 2 1, p 1 1, p 3 2, p 3 3")
	wantRun(t, w, a, []int{1, 0}, []int{4, 3}, "p 3 2, p 3 3")
	wantRefused(t, w, a, []int{0, 0}, []int{5, 4}, api.ErrArg)
	wantRefused(t, w, a, []int{2, 0}, []int{1, 4}, api.ErrArg)
	wantRefused(t, w, a, []int{0}, []int{4}, api.ErrArg)
	wantWhole(t, w, ruleOf(t, "p(X) :- e(X, _)."), "p 1, p 2, p 1, p 3")
	wantWhole(t, w, ruleOf(t, "p(X) :- e(X, Y), not f(Y)."), "p 1, p 3")
	a.Steps[0].Lit, a.Steps[1].Lit = 1, 0
	wantRefused(t, w, a, []int{0, 0}, []int{4, 4}, api.ErrPlan)
	wantRefused(t, w, planOf(t, ruleOf(t, "e(X) :- f(X)."), -1), []int{0}, []int{1}, api.ErrArity)
	wantFacts(t, w, "e 1 2, e 1 3, e 2 3, e 3 1, f 3")
}

// wide is a fact of so many numbers, from 0 on.
func wide(pred string, columns int) api.Fact {
	f := api.Fact{Pred: pred}
	for i := range columns {
		f.Args = append(f.Args, num(int64(i)))
	}
	return f
}

// noFacts are none as they may be.
func noFacts() []api.Fact {
	return []api.Fact{
		{},
		{Args: []api.Value{num(1)}},
		fact("E"),
		fact("not"),
		fact("len", num(1)),
		fact("_"),
		fact("e-", num(1)),
		fact("e", api.Value{}),
		fact("e", num(1), api.Value{Kind: 3}),
		fact("e", api.Value{Kind: -1}, num(1)),
		fact("e", api.Value{Kind: api.KNum, Text: "a"}),
		fact("e", api.Value{Kind: api.KText, Num: 1}),
		fact("e", text(strings.Repeat("a", 201))),
		fact("e"+strings.Repeat("a", 120), num(1)),
		wide("e", 25),
		wide("e", 100),
	}
}

// P13.1: no facts; one that stands twice; a name with two numbers of values; a fact that is none, wherever it stands, ahead of that.
func TestNewWorld(t *testing.T) {
	wantFacts(t, worldOf(t), "")
	wantFacts(t, worldOf(t, []api.Fact{}...), "")
	w := worldOf(t, factsOf(t, "e(2). e(1). e(2). e(1). e(3).")...)
	wantFacts(t, w, "e 1, e 2, e 3")
	wantWhole(t, w, ruleOf(t, "p(X) :- e(X)."), "p 2, p 1, p 3")
	refused := func(want api.Errno, l ...api.Fact) {
		t.Helper()
		if w, err := join.NewWorld(l...); w != nil || err != want {
			t.Errorf("NewWorld(%s) = %v, %d; want %d", brief(l), w, err, want)
		}
	}
	refused(api.ErrArity, nums("e", 1), nums("e", 1, 2))
	refused(api.ErrArity, nums("e"), nums("f"), nums("g", 1), nums("f", 0))
	refused(api.ErrArity, wide("e", 24), nums("f"), wide("e", 23))
	for _, f := range noFacts() {
		refused(api.ErrValue, f)
		refused(api.ErrValue, nums("q"), f)
		refused(api.ErrValue, f, nums("q"), nums("q", 1))
		refused(api.ErrValue, nums("q"), nums("q", 1), f)
	}
}

// P13.2: what Add refuses leaves the world as it was; ErrValue is told ahead of ErrArity.
func TestAdd(t *testing.T) {
	w := worldOf(t)
	wantAdd(t, w, nums("e", 1, 2), true, api.OK)
	wantAdd(t, w, nums("e", 1, 2), false, api.OK)
	wantAdd(t, w, nums("e", 2, 1), true, api.OK)
	wantAdd(t, w, fact("e", num(1), text("2")), true, api.OK)
	for _, f := range noFacts() {
		wantAdd(t, w, f, false, api.ErrValue)
		wantAdd(t, w, fact("e", append(slices.Clone(f.Args), api.Value{})...), false, api.ErrValue)
	}
	for _, columns := range []int{0, 1, 3, 24} {
		wantAdd(t, w, wide("e", columns), false, api.ErrArity)
	}
	wantFacts(t, w, "e 1 2, e 1 \"2\", e 2 1")
	wantAdd(t, w, nums("d"), true, api.OK)
	wantAdd(t, w, nums("d"), false, api.OK)
	wantAdd(t, w, nums("d", 0), false, api.ErrArity)
	wantAdd(t, w, nums("q_r", 1), true, api.OK)
	wantFacts(t, w, "d, e 1 2, e 1 \"2\", e 2 1, q_r 1")
}

// P13.2, P13.3: facts without values and with as many as there may be, each kind of value, the longest names and texts.
func TestEdgesOfFacts(t *testing.T) {
	long, longest := "e"+strings.Repeat("a", 119), text(strings.Repeat("\xff", 200))
	l := []api.Fact{
		fact("a"), fact(long, longest), wide("w", 24), wide("x", 23),
		fact("v", num(-1<<63)), fact("v", num(1<<63-1)), fact("v", num(0)), fact("v", text("")), fact("v", text("0")), fact("v", text("\x00")), fact("v", text("a")),
	}
	w := worldOf(t)
	for _, f := range l {
		if w.Has(f) {
			t.Errorf("Has(%s) ahead of Add", brief(f))
		}
		wantAdd(t, w, f, true, api.OK)
		wantAdd(t, w, f, false, api.OK)
		if !w.Has(f) {
			t.Errorf("not Has(%s) behind Add", brief(f))
		}
	}
	wantFacts(t, w, show(value.Facts(l)))
	wantFacts(t, worldOf(t, l...), show(value.Facts(l)))
	for pred, size := range map[string]int{"a": 1, long: 1, "w": 1, "x": 1, "v": 7, "": 0, "A": 0, "b": 0, long + "a": 0} {
		if w.Size(pred) != size {
			t.Errorf("Size(%q) = %d, want %d", pred, w.Size(pred), size)
		}
	}
	r := api.Rule{Pred: "p", Head: head(many(24)...), Body: []api.Literal{pos("w", many(24)...)}}
	wantWhole(t, w, r, show([]api.Fact{wide("p", 24)}))
}

// P13.3: Has of facts with other columns, other values, and of what is no fact; a row's number 0 is no column's absence.
func TestHas(t *testing.T) {
	w := worldOf(t, nums("e", 5, 5), nums("f", 6), nums("g"))
	for _, f := range append(noFacts(), nums("e"), nums("e", 5), nums("e", 5, 5, 5), nums("e", 5, 6), nums("e", 6, 5), nums("e", 5, 7), nums("f", 5), nums("f"), nums("g", 5), nums("h"), nums("h", 5), wide("e", 24),
		fact("e", num(5), text("5")), fact("e", num(5), api.Value{Kind: api.KNum, Num: 5, Text: "5"}), fact("e", num(5), api.Value{Kind: 9, Num: 5}), fact("e", append(nums("e", 5, 5).Args, api.Value{})...)) {
		if w.Has(f) {
			t.Errorf("Has(%s)", brief(f))
		}
	}
	for _, f := range []api.Fact{nums("e", 5, 5), nums("f", 6), nums("g")} {
		if !w.Has(f) {
			t.Errorf("not Has(%s)", brief(f))
		}
	}
}

// P13.3: the facts in order: by names, then by tuples, numbers below texts.
func TestFactsInOrder(t *testing.T) {
	w := worldOf(t, factsOf(t, `z(1). ab(2). a(b). a(10). a(9). a(-1). a(""). a("A"). b. ab(1). a(ab).`)...)
	wantFacts(t, w, `a -1, a 9, a 10, a "", a "A", a ab, a b, ab 1, ab 2, b, z 1`)
}

// R3: a world that is a nil pointer or a zero struct, under every call, whatever it is handed.
func TestNotThere(t *testing.T) {
	p := planOf(t, ruleOf(t, chain), -1)
	for _, w := range []*join.World{nil, {}, new(join.World)} {
		for _, f := range append(noFacts(), nums("e"), nums("e", 1)) {
			wantAdd(t, w, f, false, api.ErrNil)
			if w.Has(f) || w.Size(f.Pred) != 0 {
				t.Errorf("Has(%s) = %v, Size %d", brief(f), w.Has(f), w.Size(f.Pred))
			}
		}
		wantFacts(t, w, "")
		wantRefused(t, w, p, []int{0, 0}, []int{0, 0}, api.ErrNil)
		wantRefused(t, w, p, nil, nil, api.ErrNil)
		wantRefused(t, w, api.Plan{}, []int{-1}, nil, api.ErrNil)
	}
}

// R5: two worlds share nothing.
func TestTwoWorlds(t *testing.T) {
	a, b := worldOf(t, nums("e", 1)), worldOf(t, nums("e", 2, 3))
	wantAdd(t, a, nums("e", 2), true, api.OK)
	wantAdd(t, b, nums("f"), true, api.OK)
	wantFacts(t, a, "e 1, e 2")
	wantFacts(t, b, "e 2 3, f")
	wantWhole(t, a, ruleOf(t, "p(X) :- e(X)."), "p 1, p 2")
	wantWhole(t, b, ruleOf(t, "p(X) :- e(_, X)."), "p 3")
}
