package estimate_test

import (
	"slices"
	"strings"
	"testing"

	"pedigree/api"
	"pedigree/estimate"
)

// wantNoRows: the error of Rows and of Cost, beside which nothing is told.
func wantNoRows(t *testing.T, p api.Plan, l []api.Size, code api.Errno) {
	t.Helper()
	if rows, err := estimate.Rows(p, l); err != code || len(rows) != 0 {
		t.Errorf("Rows(%s, %s) = %s, %d; want %d", tellSteps(p), tellSizes(l), bits(rows...), err, code)
	}
	if cost, err := estimate.Cost(p, l); err != code || bits(cost) != bits(0) {
		t.Errorf("Cost(%s, %s) = %s, %d; want %d", tellSteps(p), tellSizes(l), bits(cost), err, code)
	}
}

// wantNoOrder: the error of Order, beside which nothing is told.
func wantNoOrder(t *testing.T, r api.Rule, l []api.Size, code api.Errno) {
	t.Helper()
	if out, err := estimate.Order(r, l); err != code || out.Pred != "" || out.Head != nil || out.Body != nil {
		t.Errorf("Order(%s, %s) = %+v, %d; want %d", show(r), tellSizes(l), out, err, code)
	}
}

// wrongSizes may not be used: one number of one size is too small or too great, whatever the name.
func wrongSizes() [][]api.Size {
	fine := []api.Size{size("e", 100, 10, 50), size("p", 8, 8)}
	var out [][]api.Size
	for _, n := range []int{-1, -2, -1 << 63, 1 << 31, 1<<31 + 1, 1<<63 - 1} {
		for _, name := range []string{"e", "p", "ghost", "", "x y", "\xff"} {
			for _, s := range []api.Size{size(name, n), size(name, n, 1), size(name, 1, n), size(name, 1, 1, n), size(name, 0, n, 1, 1), size(name, 1, append(slices.Repeat([]int{1}, 30), n)...)} {
				out = append(out, []api.Size{s}, append(slices.Clone(fine), s), append([]api.Size{s}, fine...))
			}
		}
	}
	return out
}

// P25.3 to P25.5: sizes that may not be used, and such as just may.
func TestWrongSizes(t *testing.T) {
	p := planOf(t, "h(X) :- e(X, Y), p(Y), not e(X, X).")
	empty := planOf(t, "h.")
	for _, l := range wrongSizes() {
		wantNoRows(t, p, l, api.ErrArg)
		wantNoRows(t, empty, l, api.ErrArg)
		wantNoOrder(t, p.Rule, l, api.ErrArg)
		wantNoOrder(t, empty.Rule, l, api.ErrArg)
	}
	for _, l := range [][]api.Size{nil, {{}}, {size("e", 0, 0), size("", 1<<31-1, 1<<31-1, 0), size("E F", 3)}, {size("e", 1<<31-1, 0, 1<<31-1, 5, 1<<31-1), size("e", 1)}} {
		wantRows(t, p, l, slowAllRows(p, l)...)
		if _, err := estimate.Order(p.Rule, l); err != api.OK {
			t.Errorf("Order with %s: %d", tellSizes(l), err)
		}
	}
}

// P25.3: each thing that makes steps no plan, whatever the sizes are.
func TestNoPlans(t *testing.T) {
	r := ruleOf(t, "h(X) :- e(X, Y), p(Y), X < Y, Z = X, not p(Z).")
	steps := func() []api.Step {
		return []api.Step{{Kind: api.StepScan, Lit: 0, Gives: []string{"X", "Y"}}, {Kind: api.StepHas, Lit: 1, Known: 1}, {Kind: api.StepTest, Lit: 2}, {Kind: api.StepSet, Lit: 3, Gives: []string{"Z"}}, {Kind: api.StepAbsent, Lit: 4, Known: 1}}
	}
	fine := api.Plan{Rule: r, Steps: steps()}
	wantRows(t, fine, chapterSizes(), slowAllRows(fine, chapterSizes())...)
	all := []api.Plan{{}, {Steps: steps()}, {Rule: r}, {Rule: r, Steps: []api.Step{{}}}, {Rule: ruleOf(t, "h."), Steps: steps()[:1]}}
	for i := range steps() {
		for _, turn := range []func(s *api.Step){
			func(s *api.Step) { s.Kind = api.StepNone },
			func(s *api.Step) { s.Kind = api.StepSet + 1 },
			func(s *api.Step) { s.Kind = -1 },
			func(s *api.Step) { s.Kind = 127 },
			func(s *api.Step) { s.Kind = api.StepLook },
			func(s *api.Step) { s.Lit = -1 },
			func(s *api.Step) { s.Lit = 5 },
			func(s *api.Step) { s.Lit = 1<<63 - 1 },
			func(s *api.Step) { s.Known ^= 1 },
			func(s *api.Step) { s.Known |= 1 << 31 },
			func(s *api.Step) { s.Gives = append(s.Gives, "W") },
			func(s *api.Step) { s.Gives = append(s.Gives, "") },
		} {
			p := api.Plan{Rule: r, Steps: steps()}
			turn(&p.Steps[i])
			all = append(all, p)
		}
		all = append(all, api.Plan{Rule: r, Steps: slices.Delete(steps(), i, i+1)}, api.Plan{Rule: r, Steps: append(steps(), steps()[i])})
		if i > 0 && i != 3 {
			turned := steps()
			turned[0], turned[i] = turned[i], turned[0]
			all = append(all, api.Plan{Rule: r, Steps: turned})
		}
	}
	known := api.Plan{Rule: r, Steps: steps()}
	known.Steps[0] = api.Step{Kind: api.StepLook, Lit: 0, Known: 1, Gives: []string{"Y"}}
	unsafe := api.Plan{Rule: ruleOf(t, "h(Z) :- e(X, Y)."), Steps: steps()[:1]}
	for _, p := range append(all, known, unsafe) {
		wantNoRows(t, p, chapterSizes(), api.ErrPlan)
		wantNoRows(t, p, nil, api.ErrPlan)
		wantNoRows(t, p, []api.Size{size("e", -1)}, api.ErrPlan)
	}
}

// noRules are rules by hand that are none as they may be.
func noRules() []api.Rule {
	one := []api.Literal{lit(api.LPos, "e", v("X"))}
	with := func(l api.Literal) []api.Literal { return append(slices.Clone(one), l) }
	deep := ex(v("X"))
	for range api.MaxDepth {
		deep = op(api.OpNeg, deep)
	}
	ring := make([]api.Expr, 2)
	ring[0], ring[1] = api.Expr{Op: api.OpAdd, Kids: ring}, api.Expr{Op: api.OpAdd, Kids: ring}
	wide := slices.Repeat([]api.Term{v("X")}, api.MaxWide+1)
	return []api.Rule{
		{}, {Pred: "H"}, {Pred: "not"}, {Pred: "h i"}, {Pred: "h" + strings.Repeat("a", api.MaxLong)},
		{Pred: "h", Head: head(v("_"))}, {Pred: "h", Head: head(v("x"))}, {Pred: "h", Head: head(api.Term{})}, {Pred: "h", Head: head(wide...), Body: one},
		{Pred: "h", Head: []api.Arg{{Agg: api.AggSum}}, Body: one}, {Pred: "h", Head: []api.Arg{{Agg: 9, Term: v("X")}}, Body: one},
		{Pred: "h", Body: []api.Literal{{}}}, {Pred: "h", Body: []api.Literal{{Kind: 9}}}, {Pred: "h", Body: []api.Literal{lit(-1, "e")}}, {Pred: "h", Body: []api.Literal{lit(api.LPos, "")}},
		{Pred: "h", Body: []api.Literal{lit(api.LPos, "e", wide...)}}, {Pred: "h", Body: slices.Repeat([]api.Literal{lit(api.LPos, "e")}, api.MaxBody+1)},
		{Pred: "h", Body: with(test(deep, api.RelEq, ex(v("X"))))}, {Pred: "h", Body: with(test(ex(v("X")), api.RelEq, ring[0]))},
		{Pred: "h", Body: with(test(ex(v("X")), api.RelNone, ex(v("X"))))}, {Pred: "h", Body: with(test(ex(v("X")), 7, ex(v("X"))))},
		{Pred: "h", Body: with(test(op(11, ex(v("X"))), api.RelEq, ex(v("X"))))}, {Pred: "h", Body: with(test(ex(v("_")), api.RelEq, ex(v("X"))))},
		{Pred: "h", Body: with(api.Literal{Kind: api.LNot, Atom: one[0].Atom, Rel: api.RelEq})},
	}
}

// P25.5: rules that may not be used, whatever the sizes are.
func TestNoRules(t *testing.T) {
	wrong := []api.Size{size("e", -1)}
	for _, r := range noRules() {
		for _, l := range [][]api.Size{nil, chapterSizes(), wrong} {
			wantNoOrder(t, r, l, api.ErrTerm)
			wantNoRows(t, api.Plan{Rule: r}, l, api.ErrPlan)
		}
	}
	for _, source := range []string{"h(X).", "h(X) :- p(Y).", "h(X) :- not p(X).", "h :- X = Y.", "h :- p(X), Y < X.", "h(Y) :- p(X), Y + 0 = X.", "h(max(Y)) :- p(X).", "h :- X = X + 1.", "h :- p(X), not e(X, Y)."} {
		for _, l := range [][]api.Size{nil, chapterSizes(), wrong} {
			wantNoOrder(t, ruleOf(t, source), l, api.ErrSafe)
		}
	}
}
