package join_test

import (
	"math"
	"slices"
	"strings"
	"testing"

	"pedigree/api"
	"pedigree/join"
	"pedigree/plan"
)

// mixed has facts of several kinds.
func mixed(t *testing.T) *join.World {
	t.Helper()
	return worldOf(t, factsOf(t, `e(1, 2). e(2, 2). e(2, 1). e(1, a). e(a, a). t(1, 1, 1). t(1, 2, 1). t(2, 2, 1). t(a, 2, a). n(2). n(1). n(0). w(a). w("\xc3\xa9"). w(""). g.`)...)
}

// P13.4: each kind of step, over whole spans.
func TestRunOfEachKind(t *testing.T) {
	w := mixed(t)
	for _, row := range []struct{ source, want string }{
		{"p.", "p"},
		{"p(1, a, 1).", "p 1 a 1"},
		{"p :- g.", "p"},
		{"p :- h.", ""},
		{"p :- not g.", ""},
		{"p :- not h.", "p"},
		{"p(X) :- n(X).", "p 2, p 1, p 0"},
		{"p :- n(_).", "p, p, p"},
		{"p :- n(1).", "p"},
		{"p :- n(7).", ""},
		{"p :- n(a).", ""},
		{"p(X) :- e(X, X).", "p 2, p a"},
		{"p(Y) :- e(1, Y).", "p 2, p a"},
		{"p(X) :- e(X, 2).", "p 1, p 2"},
		{"p(X) :- e(X, 77).", ""},
		{"p(X) :- e(X, _).", "p 1, p 2, p 2, p 1, p a"},
		{"p :- e(_, a).", "p, p"},
		{"p(X, Y) :- t(X, Y, X).", "p 1 1, p 1 2, p a 2"},
		{"p(X) :- t(X, X, X).", "p 1"},
		{"p(X) :- t(X, 2, X).", "p 1, p a"},
		{"p(X, Y) :- t(X, Y, Y).", "p 1 1"},
		{"p(X) :- t(_, X, _).", "p 1, p 2, p 2, p 2"},
		{"p(X, Y) :- n(X), t(X, Y, X).", "p 1 1, p 1 2"},
		{"p(X, Y) :- n(X), t(X, Y, Y).", "p 1 1"},
		{"p(X, Y) :- n(Y), t(X, Y, X).", "p 1 2, p a 2, p 1 1"},
		{"p(X) :- n(X), e(X, X).", "p 2"},
		{"p(X, Y) :- n(X), n(Y), e(X, Y).", "p 2 2, p 2 1, p 1 2"},
		{"p(X, Y) :- n(X), n(Y), not e(X, Y).", "p 2 0, p 1 1, p 1 0, p 0 2, p 0 1, p 0 0"},
		{"p(X) :- n(X), not e(X, _).", "p 0"},
		{"p(X) :- n(X), not e(_, X).", "p 0"},
		{"p(X) :- n(X), not e(_, _).", ""},
		{"p(X) :- n(X), not k(_, _).", "p 2, p 1, p 0"},
		{"p(X) :- n(X), not k(X, 2).", "p 2, p 1, p 0"},
		{"p(X) :- n(X), not t(X, _, X).", "p 2, p 0"},
		{"p(X) :- n(X), not t(X, X, 1).", "p 0"},
		{"p(X) :- n(X), not t(X, 77, X).", "p 2, p 1, p 0"},
		{"p(X) :- n(X), not n(77).", "p 2, p 1, p 0"},
		{"p(X) :- n(X), X > 0.", "p 2, p 1"},
		{"p(X) :- n(X), 1 > 2.", ""},
		{"p(X) :- n(X), 10 / X > 5.", "p 1"},
		{"p(X) :- n(X), X - 1 != 0.", "p 2, p 0"},
		{"p(X) :- e(X, _), X < a.", "p 1, p 2, p 2, p 1"},
		{"p(X) :- e(X, _), X + 0 = X.", "p 1, p 2, p 2, p 1"},
		{"p(X, Y) :- n(X), Y = X * 10.", "p 2 20, p 1 10, p 0 0"},
		{"p(X, Y) :- n(X), X * 10 = Y.", "p 2 20, p 1 10, p 0 0"},
		{"p(X, Y) :- n(X), Y = 10 / X.", "p 2 5, p 1 10"},
		{"p(Y) :- Y = X, X = 5.", "p 5"},
		{"p(Y) :- Y = X, n(X).", "p 2, p 1, p 0"},
		{"p(Y) :- X = Y, n(X).", "p 2, p 1, p 0"},
		{"p(Y) :- n(X), Y = X - 1, n(Y).", "p 1, p 0"},
		{"p(Y) :- n(X), Y = X + 1, n(Y).", "p 2, p 1"},
		{"p(Y) :- n(X), Y = X + 1, not n(Y).", "p 3"},
		{"p(Y, Z) :- n(X), Y = X + 1, e(Y, Z).", "p 2 2, p 2 1, p 1 2, p 1 a"},
		{"p(Y) :- n(X), Y = X + 7, e(_, Y).", ""},
		{"p(Y) :- n(X), Y = X + 7, not e(_, Y).", "p 9, p 8, p 7"},
		{"p(Y, Z) :- n(X), Y = X + 7, Z = Y - X, n(X).", "p 9 7, p 8 7, p 7 7"},
		{`p(Y) :- w(X), Y = X & "!".`, `p "a!", p "\xc3\xa9!", p "!"`},
		{"p(X, Y) :- w(X), Y = len(X), n(Y).", `p a 1, p "\xc3\xa9" 2, p "" 0`},
		{"p(X, Y) :- w(X), Y = chars(X), n(Y).", `p a 1, p "\xc3\xa9" 1, p "" 0`},
		{"p(X) :- w(X), X = back(X), X = a.", "p a"},
		{"p(X, X, 3, X) :- n(X), g.", "p 2 2 3 2, p 1 1 3 1, p 0 0 3 0"},
		{"n(X) :- n(X), e(X, Y), n(Y).", "n 2, n 2, n 1"},
	} {
		wantWhole(t, w, ruleOf(t, row.source), row.want)
	}
	wantFacts(t, w, show(mixed(t).Facts()))
}

// P13.4: the order of choices is by the plan's steps, not by the body.
func TestOrderOfChoices(t *testing.T) {
	w := worldOf(t, factsOf(t, "a(2). a(1). b(x). b(y).")...)
	r := ruleOf(t, "p(X, Y) :- a(X), b(Y).")
	wantRun(t, w, planOf(t, r, -1), []int{0, 0}, []int{2, 2}, "p 2 x, p 2 y, p 1 x, p 1 y")
	wantRun(t, w, planOf(t, r, 1), []int{0, 0}, []int{2, 2}, "p 2 x, p 1 x, p 2 y, p 1 y")
	wantRun(t, w, planOf(t, r, 1), []int{1, 0}, []int{2, 2}, "p 1 x, p 1 y")
	wantRun(t, w, planOf(t, r, 0), []int{0, 1}, []int{2, 2}, "p 2 y, p 1 y")

	e := edges(t)
	e.Add(nums("e", 3, 1))
	a := ruleOf(t, chain)
	wantRun(t, e, planOf(t, a, 1), []int{0, 0}, []int{4, 4}, "p 3 2, p 1 3, p 3 3, p 2 1, p 1 1")
	late := planOf(t, ruleOf(t, "p(X, Y) :- X < Y, a(X), not c(X), a(Y)."), -1)
	w.Add(nums("a", 3))
	wantRun(t, w, late, []int{0, 0, 0, 0}, []int{0, 3, 0, 3}, "p 2 3, p 1 2, p 1 3")
}

// P13.4: spans of scans, looks and of facts all whose columns are known.
func TestSpans(t *testing.T) {
	w := worldOf(t, factsOf(t, "a(0). e(0, 5). e(1, 5). e(0, 6). e(1, 6). e(0, 7).")...)
	scan := planOf(t, ruleOf(t, "p(X, Y) :- e(X, Y)."), -1)
	look := planOf(t, ruleOf(t, "p(Y) :- e(0, Y)."), -1)
	known := planOf(t, ruleOf(t, "p :- e(1, 6)."), -1)
	behind := planOf(t, ruleOf(t, "p(X, Y) :- a(X), e(X, Y)."), -1)
	all := []string{"p 0 5", "p 1 5", "p 0 6", "p 1 6", "p 0 7"}
	of0 := map[int]string{0: "5", 2: "6", 4: "7"}
	for from := range 6 {
		for to := from; to <= 5; to++ {
			wantRun(t, w, scan, []int{from}, []int{to}, strings.Join(all[from:to], ", "))
			var looks, behinds []string
			has := ""
			for i := from; i < to; i++ {
				if of0[i] != "" {
					looks, behinds = append(looks, "p "+of0[i]), append(behinds, "p 0 "+of0[i])
				}
				if i == 3 {
					has = "p"
				}
			}
			wantRun(t, w, look, []int{from}, []int{to}, strings.Join(looks, ", "))
			wantRun(t, w, known, []int{from}, []int{to}, has)
			wantRun(t, w, behind, []int{0, from}, []int{1, to}, strings.Join(behinds, ", "))
			wantRun(t, w, behind, []int{0, from}, []int{0, to}, "")
			wantRun(t, w, behind, []int{1, from}, []int{1, to}, "")
		}
	}
	g := worldOf(t, nums("g"))
	lone := planOf(t, ruleOf(t, "p :- g."), -1)
	wantRun(t, g, lone, []int{0}, []int{1}, "p")
	wantRun(t, g, lone, []int{0}, []int{0}, "")
	wantRun(t, g, lone, []int{1}, []int{1}, "")
}

// P13.4: a not looks at all facts, whatever the spans are, also where the same predicate is read by an atom.
func TestNotsLookAtAll(t *testing.T) {
	w := worldOf(t, factsOf(t, "e(1, 2). e(2, 1). e(2, 3).")...)
	p := planOf(t, ruleOf(t, "p(X, Y) :- e(X, Y), not e(Y, X)."), -1)
	q := planOf(t, ruleOf(t, "p(X, Y) :- e(X, Y), not e(Y, _)."), -1)
	wantRun(t, w, p, []int{0, 0}, []int{1, 0}, "")
	wantRun(t, w, p, []int{1, 0}, []int{3, 0}, "p 2 3")
	wantRun(t, w, q, []int{0, 0}, []int{3, 0}, "p 2 3")
	w.Add(nums("e", 3, 2))
	wantRun(t, w, p, []int{0, 0}, []int{3, 0}, "")
	wantRun(t, w, q, []int{0, 0}, []int{3, 0}, "")
}

// P13.4: each step's literal has its own span, though several read one predicate.
func TestSpanOfEachLiteral(t *testing.T) {
	w := worldOf(t, factsOf(t, "n(0). n(1). n(2).")...)
	p := planOf(t, ruleOf(t, "p(X, Y, Z) :- n(X), n(Y), n(Z)."), 2)
	wantRun(t, w, p, []int{0, 1, 2}, []int{1, 3, 3}, "p 0 1 2, p 0 2 2")
	wantRun(t, w, p, []int{2, 0, 0}, []int{3, 1, 2}, "p 2 0 0, p 2 0 1")
	q := planOf(t, ruleOf(t, "p(X) :- n(X), n(X), not n(7), n(X)."), -1)
	wantRun(t, w, q, []int{0, 1, 0, 0}, []int{3, 3, 0, 2}, "p 1")
	wantRun(t, w, q, []int{0, 1, 0, 0}, []int{3, 3, 0, 1}, "")
	wantRun(t, w, q, []int{0, 0, 0, 0}, []int{3, 3, 0, 3}, "p 0, p 1, p 2")
}

// P13.4: spans that are none.
func TestSpansThatAreNone(t *testing.T) {
	w := mixed(t) // of e there are five facts, of n three
	p := planOf(t, ruleOf(t, "p(X) :- n(X), not g, X < 2, e(X, _), h."), -1)
	wantRun(t, w, p, []int{0, 0, 0, 0, 0}, []int{3, 0, 0, 5, 0}, "")
	wantRun(t, w, p, []int{3, 0, 0, 5, 0}, []int{3, 0, 0, 5, 0}, "")
	for _, row := range [][2][]int{
		{nil, nil},
		{{0, 0, 0, 0}, {3, 0, 0, 5}},
		{{0, 0, 0, 0, 0}, {3, 0, 0, 5}},
		{{0, 0, 0, 0}, {3, 0, 0, 5, 0}},
		{{0, 0, 0, 0, 0, 0}, {3, 0, 0, 5, 0, 0}},
		{{0, 0, 0, 0, 0, 0}, {3, 0, 0, 5, 0}},
		{nil, {3, 0, 0, 5, 0}},
		{{0, 0, 0, 0, 0}, nil},
		{{-1, 0, 0, 0, 0}, {3, 0, 0, 5, 0}},
		{{math.MinInt, 0, 0, 0, 0}, {3, 0, 0, 5, 0}},
		{{0, 0, 0, -1, 0}, {3, 0, 0, -1, 0}},
		{{2, 0, 0, 0, 0}, {1, 0, 0, 5, 0}},
		{{0, 0, 0, 5, 0}, {3, 0, 0, 0, 0}},
		{{0, 0, 0, 0, 0}, {4, 0, 0, 5, 0}},
		{{0, 0, 0, 0, 0}, {3, 0, 0, 6, 0}},
		{{4, 0, 0, 0, 0}, {4, 0, 0, 5, 0}},
		{{0, 0, 0, 0, 0}, {3, 0, 0, math.MaxInt, 0}},
		{{0, 0, 0, 0, 0}, {3, 1, 0, 5, 0}},
		{{0, 1, 0, 0, 0}, {3, 1, 0, 5, 0}},
		{{0, -1, 0, 0, 0}, {3, 0, 0, 5, 0}},
		{{0, 0, 0, 0, 0}, {3, 0, 1, 5, 0}},
		{{0, 0, 1, 0, 0}, {3, 0, 1, 5, 0}},
		{{0, 0, -1, 0, 0}, {3, 0, -1, 5, 0}},
		{{0, 0, 0, 0, 0}, {3, 0, 0, 5, 1}},
		{{0, 0, 0, 0, 1}, {3, 0, 0, 5, 1}},
	} {
		wantRefused(t, w, p, row[0], row[1], api.ErrArg)
	}
	lone := planOf(t, ruleOf(t, "p."), -1)
	wantRun(t, w, lone, nil, []int{}, "p")
	wantRefused(t, w, lone, []int{0}, []int{0}, api.ErrArg)
	wantRefused(t, w, lone, nil, []int{0}, api.ErrArg)
}

// P13.4: plans that are not right, whatever else is wrong.
func TestPlansThatAreNotRight(t *testing.T) {
	w := mixed(t)
	good := planOf(t, ruleOf(t, "p(X, Y) :- n(X), e(X, Y)."), -1)
	with := func(turn func(p *api.Plan)) api.Plan {
		p := api.Plan{Rule: good.Rule, Steps: slices.Clone(good.Steps)}
		turn(&p)
		return p
	}
	counting := ruleOf(t, "e(count()) :- n(X), e(X).")
	known, _ := plan.Make(good.Rule, []string{"X"}, -1)
	for _, p := range []api.Plan{
		{},
		known,
		with(func(p *api.Plan) { p.Steps = nil }),
		with(func(p *api.Plan) { p.Steps = p.Steps[:1] }),
		with(func(p *api.Plan) { p.Steps = append(p.Steps, p.Steps[1]) }),
		with(func(p *api.Plan) { p.Steps[1].Lit = 0 }),
		with(func(p *api.Plan) { p.Steps[1].Lit = 2 }),
		with(func(p *api.Plan) { p.Steps[1].Lit = -1 }),
		with(func(p *api.Plan) { p.Steps[0].Kind = api.StepLook }),
		with(func(p *api.Plan) { p.Steps[0].Kind = 99 }),
		with(func(p *api.Plan) { p.Steps[1].Known = 3 }),
		with(func(p *api.Plan) { p.Steps[1].Gives = nil }),
		with(func(p *api.Plan) { p.Steps[1].Gives = []string{"Z"} }),
		with(func(p *api.Plan) { p.Rule.Pred = "P" }),
		with(func(p *api.Plan) { p.Rule.Head = head(v("_")) }),
		with(func(p *api.Plan) { p.Rule.Head = head(v("Z")) }),
		with(func(p *api.Plan) { p.Rule.Body = nil }),
		with(func(p *api.Plan) { p.Rule.Body = []api.Literal{good.Rule.Body[0], {}} }),
		{Rule: counting},
		{Rule: counting, Steps: good.Steps},
	} {
		wantRefused(t, w, p, []int{0, 0}, []int{3, 5}, api.ErrPlan)
		wantRefused(t, w, p, []int{-1}, nil, api.ErrPlan)
	}
}

// P13.4: an aggregate, ahead of two arities and spans that are none.
func TestRulesWithAggregates(t *testing.T) {
	w := mixed(t)
	for _, source := range []string{"p(count()) :- n(X).", "p(X, sum(X)) :- n(X).", "p(min(X)) :- n(X).", "p(max(X)) :- n(X).", "n(X, count()) :- n(X).", "p(max(X)) :- n(X, X)."} {
		p := planOf(t, ruleOf(t, source), -1)
		wantRefused(t, w, p, []int{0}, []int{3}, api.ErrLevel)
		wantRefused(t, w, p, nil, nil, api.ErrLevel)
	}
}

// P13.4: one name with two numbers of columns: in the rule, or the rule's and the world's; ahead of spans that are none.
func TestTwoArities(t *testing.T) {
	w := mixed(t)
	for _, source := range []string{
		"n(X, X) :- n(X).", "e :- n(_).", "g(1).", "p(X) :- n(X, X).", "p(X) :- n(X), e(X).", "p(X) :- n(X), not e(X, X, X).", "p :- not g(1).", "p(X) :- g(X).",
		"p(X) :- n(X), p.", "p(X) :- n(X), not p.", "p :- z(1), z(1, 2).", "p :- z(1), not z.",
	} {
		p := planOf(t, ruleOf(t, source), -1)
		from, to := whole(w, p.Rule)
		wantRefused(t, w, p, from, to, api.ErrArity)
		wantRefused(t, w, p, []int{-1}, nil, api.ErrArity)
	}
	wantWhole(t, w, ruleOf(t, "e(X, X) :- n(X), not z(X)."), "e 2 2, e 1 1, e 0 0")
	wantWhole(t, worldOf(t), ruleOf(t, "p :- z(1), not z(2)."), "")
	w.Add(nums("z", 1, 2))
	wantRefused(t, w, planOf(t, ruleOf(t, "p :- not z(1)."), -1), []int{0}, []int{0}, api.ErrArity)
	// Nothing of the rules that were run has come to the world, their predicates neither.
	wantAdd(t, w, nums("p", 1, 2, 3), true, api.OK)
	wantAdd(t, w, nums("h", 1, 2, 3), true, api.OK)
}

// P13.5: what comes later is behind, and is found by steps that have run before.
func TestRunAsItIs(t *testing.T) {
	w := worldOf(t)
	r := ruleOf(t, "p(X, Z) :- e(X, Y), e(Y, Z), not f(X, _), e(X, Y).")
	p := planOf(t, r, -1)
	want := []string{"", "", "p 1 3", "p 1 3, p 2 4", "p 1 3, p 2 4, p 3 5"}
	for i, now := range want {
		from, to := whole(w, r)
		wantRun(t, w, p, from, to, now)
		wantAdd(t, w, nums("e", int64(i+1), int64(i+2)), true, api.OK)
		wantRun(t, w, p, from, to, now)
	}
	from, to := whole(w, r)
	wantRun(t, w, p, from, to, "p 1 3, p 2 4, p 3 5, p 4 6")
	wantAdd(t, w, nums("f", 2, 0), true, api.OK)
	wantRun(t, w, p, from, to, "p 1 3, p 3 5, p 4 6")
	wantRun(t, w, p, []int{2, 0, 0, 0}, []int{4, 5, 0, 5}, "p 3 5, p 4 6")
	wantRun(t, w, p, []int{0, 0, 0, 1}, []int{5, 4, 0, 5}, "p 3 5")
}

// P13.4: values that comparisons make stay out of the world.
func TestMadeValues(t *testing.T) {
	w := worldOf(t, nums("n", 1))
	for range 3 {
		wantWhole(t, w, ruleOf(t, "p(Y) :- n(X), Y = X + 1, not n(Y)."), "p 2")
		wantWhole(t, w, ruleOf(t, "p(Y) :- n(X), Y = X + 1, n(Y)."), "")
	}
	wantAdd(t, w, nums("n", 2), true, api.OK)
	wantWhole(t, w, ruleOf(t, "p(Y) :- n(X), Y = X + 1, n(Y)."), "p 2")
	wantWhole(t, w, ruleOf(t, "p(Y) :- n(X), Y = X + 1, not n(Y)."), "p 3")
}

// P13.4, R1: as many literals, columns and variables as there may be; where an atom has no choice, those ahead of it are not gone through.
func TestWideBodies(t *testing.T) {
	w := worldOf(t)
	var body []api.Literal
	for i, x := range many(16) {
		wantAdd(t, w, nums("n", int64(i)), true, api.OK)
		body = append(body, pos("n", x))
	}
	p := planOf(t, api.Rule{Pred: "p", Head: head(many(16)...), Body: body}, -1)
	from, to := make([]int, 16), make([]int, 16)
	for i := range 16 {
		from[i], to[i] = 15-i, 16-i
	}
	wantRun(t, w, p, from, to, "p 15 14 13 12 11 10 9 8 7 6 5 4 3 2 1 0")
	from[15], to[15] = 0, 16
	if l, err := w.Run(p, from, to); err != api.OK || len(l) != 16 {
		t.Errorf("Run = %s, %d", brief(show(l)), err)
	}
	clear(from)
	for i := range to {
		to[i] = 16
	}
	to[15] = 0
	wantRun(t, w, p, from, to, "")
	body[15] = pos("ghost", v("V15"), v("_"))
	wantRun(t, w, planOf(t, api.Rule{Pred: "p", Body: body}, -1), from, to, "")

	w = worldOf(t, wide("e", 24))
	r := api.Rule{Pred: "p", Head: head(many(24)...), Body: slices.Repeat([]api.Literal{pos("e", many(24)...)}, 16)}
	wantWhole(t, w, r, show([]api.Fact{wide("p", 24)}))
	r.Body[3] = not("e", many(24)...)
	wantWhole(t, w, r, "")
}
