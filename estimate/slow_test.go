package estimate_test

import (
	"cmp"
	"math/big"
	"slices"
	"testing"

	"pedigree/api"
	"pedigree/lex"
	"pedigree/term"
)

// What stands here is written along the chapters, word by word, with lists alone; each operation is worked out exactly and then rounded once.

func exact(x float64) *big.Rat { return new(big.Rat).SetFloat64(x) }

func rounded(x *big.Rat) float64 {
	out, _ := x.Float64()
	return out
}

func plus(x, y float64) float64 { return rounded(new(big.Rat).Add(exact(x), exact(y))) }

func less(x, y float64) float64 { return rounded(new(big.Rat).Sub(exact(x), exact(y))) }

func times(x, y float64) float64 { return rounded(new(big.Rat).Mul(exact(x), exact(y))) }

func by(x, y float64) float64 { return rounded(new(big.Rat).Quo(exact(x), exact(y))) }

func whole(n int64) float64 { return rounded(new(big.Rat).SetInt64(n)) }

func sumOf(l []float64) float64 {
	out := 0.0
	for _, x := range l {
		out = plus(out, x)
	}
	return out
}

func isIn(name string, l []string) bool { return slices.Contains(l, name) }

func allIn(some, all []string) bool {
	return !slices.ContainsFunc(some, func(name string) bool { return !isIn(name, all) })
}

func isLone(e api.Expr) bool { return e.Op == api.OpTerm && e.Term.Var != "" }

// slowStep is the right step of a literal at a turn; StepNone, if it is not ready.
func slowStep(body []api.Literal, i int, known []string) api.Step {
	l, s := body[i], api.Step{Lit: i}
	unknown := slices.DeleteFunc(term.LiteralVars(l), func(name string) bool { return isIn(name, known) })
	columns := 0
	for c, x := range l.Atom.Args {
		if x.Var == "" || x.Var != "_" && isIn(x.Var, known) {
			s.Known += 1 << c
			columns++
		}
	}
	gives := func(lone, other api.Expr) bool {
		return l.Kind == api.LCmp && l.Rel == api.RelEq && isLone(lone) && !isIn(lone.Term.Var, known) && allIn(term.ExprVars(other), known)
	}
	switch {
	case l.Kind == api.LPos && columns == len(l.Atom.Args):
		s.Kind = api.StepHas
	case l.Kind == api.LPos && columns == 0:
		s.Kind, s.Gives = api.StepScan, unknown
	case l.Kind == api.LPos:
		s.Kind, s.Gives = api.StepLook, unknown
	case l.Kind == api.LNot && len(unknown) == 0:
		s.Kind = api.StepAbsent
	case l.Kind == api.LCmp && len(unknown) == 0:
		s.Kind = api.StepTest
	case gives(l.Left, l.Right), gives(l.Right, l.Left):
		s.Kind, s.Gives = api.StepSet, unknown
	default:
		return api.Step{}
	}
	return s
}

// slowPlan takes the literals in this order; false, if one is not ready at its turn.
func slowPlan(r api.Rule, order []int) (api.Plan, bool) {
	p := api.Plan{Rule: r}
	var known []string
	for _, i := range order {
		s := slowStep(r.Body, i, known)
		if s.Kind == api.StepNone {
			return api.Plan{}, false
		}
		p.Steps, known = append(p.Steps, s), append(known, s.Gives...)
	}
	return p, true
}

// asWritten is the plan that takes a body's literals one behind the other.
func asWritten(t *testing.T, source string) api.Plan {
	t.Helper()
	r := ruleOf(t, source)
	var order []int
	for i := range r.Body {
		order = append(order, i)
	}
	p, ok := slowPlan(r, order)
	if !ok {
		t.Fatalf("%s: no plan as it is written", source)
	}
	return p
}

func slowUsable(l []api.Size) bool {
	for _, s := range l {
		for _, n := range append([]int{s.Rows}, s.Distinct...) {
			if n < 0 || n > 2147483647 {
				return false
			}
		}
	}
	return true
}

// slowRows are the rows behind one step of a literal.
func slowRows(ahead float64, s api.Step, x api.Literal, l []api.Size) float64 {
	switch {
	case s.Kind == api.StepAbsent:
		return by(ahead, 2)
	case s.Kind == api.StepSet:
		return ahead
	case s.Kind == api.StepTest && x.Rel == api.RelEq:
		return by(ahead, 10)
	case s.Kind == api.StepTest && x.Rel == api.RelNe:
		return by(times(ahead, 9), 10)
	case s.Kind == api.StepTest:
		return by(ahead, 3)
	}
	var own api.Size
	for i := len(l) - 1; i >= 0; i-- {
		if l[i].Pred == x.Atom.Pred {
			own = l[i]
		}
	}
	out := times(ahead, whole(int64(own.Rows)))
	for c := range x.Atom.Args {
		if s.Known>>c&1 == 1 && c < len(own.Distinct) && own.Distinct[c] > 0 {
			out = by(out, whole(int64(own.Distinct[c])))
		}
	}
	return out
}

func slowAllRows(p api.Plan, l []api.Size) []float64 {
	var out []float64
	rows := 1.0
	for _, s := range p.Steps {
		rows = slowRows(rows, s, p.Rule.Body[s.Lit], l)
		out = append(out, rows)
	}
	return out
}

// slowRuleCode is check.Rule's error along chapter 7.
func slowRuleCode(r api.Rule) api.Errno {
	if term.CheckRule(r) != api.OK {
		return api.ErrTerm
	}
	var limited []string
	for _, l := range r.Body {
		if l.Kind == api.LPos {
			limited = append(limited, term.AtomVars(l.Atom)...)
		}
	}
	for range r.Body {
		for i := range r.Body {
			if s := slowStep(r.Body, i, limited); s.Kind == api.StepSet {
				limited = append(limited, s.Gives...)
			}
		}
	}
	if !allIn(term.RuleVars(r), limited) {
		return api.ErrSafe
	}
	return api.OK
}

// slowOrder is a body's order: the numbers of its literals, one behind the other.
func slowOrder(r api.Rule, l []api.Size) []int {
	var taken []int
	var known []string
	rows := 1.0
	for range r.Body {
		best, bestRows := -1, 0.0
		for i := len(r.Body) - 1; i >= 0; i-- {
			s := slowStep(r.Body, i, known)
			if slices.Contains(taken, i) || s.Kind == api.StepNone {
				continue
			}
			if own := slowRows(rows, s, r.Body[i], l); best == -1 || own <= bestRows {
				best, bestRows = i, own
			}
		}
		known = append(known, slowStep(r.Body, best, known).Gives...)
		taken, rows = append(taken, best), bestRows
	}
	return taken
}

func sameFact(a, b api.Fact) bool { return a.Pred == b.Pred && slices.Equal(a.Args, b.Args) }

// unlike are the facts of a name, each once, as they come.
func unlike(l []api.Fact, pred string) []api.Fact {
	var out []api.Fact
	for _, f := range l {
		if f.Pred == pred && !slices.ContainsFunc(out, func(x api.Fact) bool { return sameFact(x, f) }) {
			out = append(out, f)
		}
	}
	return out
}

func slowSizes(l []api.Fact) []api.Size {
	var names []string
	for _, f := range l {
		if !isIn(f.Pred, names) {
			names = append(names, f.Pred)
		}
	}
	slices.Sort(names)
	var out []api.Size
	for _, name := range names {
		own := unlike(l, name)
		s := api.Size{Pred: name, Rows: len(own)}
		for col := 0; slices.ContainsFunc(own, func(f api.Fact) bool { return len(f.Args) > col }); col++ {
			var values []api.Value
			for _, f := range own {
				if len(f.Args) > col && !slices.Contains(values, f.Args[col]) {
					values = append(values, f.Args[col])
				}
			}
			s.Distinct = append(s.Distinct, len(values))
		}
		out = append(out, s)
	}
	return out
}

func compareValues(a, b api.Value) int {
	return cmp.Or(cmp.Compare(a.Kind, b.Kind), cmp.Compare(a.Num, b.Num), cmp.Compare(a.Text, b.Text))
}

// slowShare: the numbers are those of the unlike facts, in the order of facts.
func slowShare(l []api.Fact, pred string, col int) (mean, spread float64, n int) {
	own := unlike(l, pred)
	slices.SortFunc(own, func(a, b api.Fact) int { return slices.CompareFunc(a.Args, b.Args, compareValues) })
	var all []float64
	for _, f := range own {
		if col >= 0 && col < len(f.Args) && f.Args[col].Kind == api.KNum && f.Args[col].Text == "" {
			all = append(all, whole(f.Args[col].Num))
		}
	}
	if len(all) == 0 {
		return 0, 0, 0
	}
	count := whole(int64(len(all)))
	mean = by(sumOf(all), count)
	var squares []float64
	for _, x := range all {
		off := less(x, mean)
		squares = append(squares, by(times(off, off), count))
	}
	return mean, sumOf(squares), len(all)
}

// slowRight: is it a plan, with nothing known ahead?
func slowRight(p api.Plan) bool {
	if slowRuleCode(p.Rule) != api.OK || len(p.Steps) != len(p.Rule.Body) {
		return false
	}
	var taken []int
	var known []string
	for _, s := range p.Steps {
		if s.Lit < 0 || s.Lit >= len(p.Rule.Body) || slices.Contains(taken, s.Lit) || !allIn(s.Gives, term.LiteralVars(p.Rule.Body[s.Lit])) {
			return false
		}
		right := slowStep(p.Rule.Body, s.Lit, known)
		if right.Kind == api.StepNone || right.Kind != s.Kind || right.Known != s.Known || !slices.Equal(right.Gives, s.Gives) {
			return false
		}
		taken, known = append(taken, s.Lit), append(known, s.Gives...)
	}
	return !slices.ContainsFunc(known, func(name string) bool { return !lex.Variable(name) })
}
