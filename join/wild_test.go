package join_test

import (
	"slices"
	"testing"

	"pedigree/api"
	"pedigree/check"
	"pedigree/join"
	"pedigree/plan"
	"pedigree/term"
	"pedigree/value"
)

// dice are numbers that look thrown and are the same in each run.
type dice uint64

func (d *dice) below(n int) int {
	*d = *d*6364136223846793005 + 1442695040888963407
	return int(uint64(*d) >> 33 % uint64(n))
}

func (d *dice) one(l ...string) string { return l[d.below(len(l))] }

// preds are the predicates of wild facts and bodies, with their columns; of ghost there are no facts.
func preds() []api.Pred {
	return []api.Pred{{Name: "g"}, {Name: "n", Arity: 1}, {Name: "e", Arity: 2}, {Name: "e", Arity: 2}, {Name: "t", Arity: 3}, {Name: "ghost", Arity: 1}}
}

func (d *dice) value() api.Value {
	if d.below(5) == 0 {
		return text(d.one("", "a", "ab"))
	}
	return num(int64(d.below(4)) - 1)
}

func (d *dice) fact() api.Fact {
	l := preds()
	p := l[d.below(len(l)-1)]
	f := api.Fact{Pred: p.Name}
	for range p.Arity {
		f.Args = append(f.Args, d.value())
	}
	return f
}

func (d *dice) facts(most int) []api.Fact {
	var out []api.Fact
	for range d.below(most + 1) {
		out = append(out, d.fact())
	}
	return out
}

func (d *dice) term() api.Term {
	switch d.below(8) {
	case 0:
		return api.Term{Val: d.value()}
	case 1:
		return v("_")
	}
	return v(d.one("X", "Y", "Z", "W"))
}

func (d *dice) expr(deep int) api.Expr {
	if deep == 0 || d.below(2) == 0 {
		if d.below(4) == 0 {
			return ex(api.Term{Val: d.value()})
		}
		return ex(v(d.one("X", "Y", "Z", "W", "V")))
	}
	switch o := api.OpNeg + api.Op(d.below(int(api.OpBack))); o {
	case api.OpNeg, api.OpLen, api.OpChars, api.OpBack:
		return op(o, d.expr(deep-1))
	default:
		return op(o, d.expr(deep-1), d.expr(deep-1))
	}
}

func (d *dice) atom() api.Atom {
	l := preds()
	p := l[d.below(len(l)*4-3)/4] // a ghost seldom
	a := api.Atom{Pred: p.Name}
	for range p.Arity {
		a.Args = append(a.Args, d.term())
	}
	return a
}

func (d *dice) literal() api.Literal {
	switch d.below(6) {
	case 0:
		return api.Literal{Kind: api.LNot, Atom: d.atom()}
	case 1:
		return cmp(d.expr(1), api.RelEq+api.Rel(d.below(6)), d.expr(1))
	case 2:
		return cmp(d.expr(2), api.RelEq, d.expr(2))
	}
	return api.Literal{Kind: api.LPos, Atom: d.atom()}
}

// rule is one that may be used, without aggregates.
func (d *dice) rule(most int) api.Rule {
	for {
		r := api.Rule{Pred: "p"}
		for range d.below(most + 1) {
			r.Body = append(r.Body, d.literal())
		}
		names := term.RuleVars(r)
		for range d.below(4) {
			if len(names) > 0 && d.below(4) > 0 {
				r.Head = append(r.Head, api.Arg{Term: v(d.one(names...))})
			} else {
				r.Head = append(r.Head, api.Arg{Term: api.Term{Val: d.value()}})
			}
		}
		if check.Rule(r) == api.OK {
			return r
		}
	}
}

// plan is a right plan that takes the literals in any order.
func (d *dice) plan(t *testing.T, r api.Rule) api.Plan {
	t.Helper()
	p := api.Plan{Rule: r}
	var known []string
	for left := numbers(len(r.Body)); len(left) > 0; {
		at := d.below(len(left))
		one, err := plan.Make(api.Rule{Pred: "p", Body: r.Body[left[at] : left[at]+1]}, known, -1)
		if err != api.OK {
			continue // it is not ready
		}
		s := one.Steps[0]
		s.Lit = left[at]
		p.Steps, known, left = append(p.Steps, s), append(known, s.Gives...), slices.Delete(left, at, at+1)
	}
	if !plan.Right(p, nil) {
		t.Fatalf("no plan: %s", briefPlan(p))
	}
	return p
}

func numbers(n int) []int {
	var out []int
	for i := range n {
		out = append(out, i)
	}
	return out
}

// spans are any that a rule may have over a world.
func (d *dice) spans(w *join.World, r api.Rule) ([]int, []int) {
	from, to := whole(w, r)
	for i := range to {
		if d.below(2) == 0 {
			to[i] -= d.below(to[i] + 1)
			from[i] = d.below(to[i] + 1)
		}
	}
	return from, to
}

// byNumber are a world's facts of a name in the order in which they came.
func byNumber(l []api.Fact, pred string) []api.Fact {
	var out []api.Fact
	for _, f := range l {
		if f.Pred == pred && !slices.ContainsFunc(out, func(g api.Fact) bool { return value.CompareFacts(f, g) == 0 }) {
			out = append(out, f)
		}
	}
	return out
}

// under is an atom whose variables are their values.
func under(a api.Atom, l []api.Bind) api.Atom {
	var pairs []api.Pair
	for _, b := range l {
		pairs = append(pairs, api.Pair{Var: b.Var, Term: api.Term{Val: b.Val}})
	}
	return term.Apply(pairs, a)
}

func isFact(a api.Atom, l []api.Fact) bool {
	return slices.ContainsFunc(l, func(f api.Fact) bool {
		_, ok := term.Match(a, f)
		return ok
	})
}

// holds: does the literal hold over the facts, by DOC.md's words? (The binds assign all its variables.)
func holds(lit api.Literal, l []api.Fact, binds []api.Bind) bool {
	switch lit.Kind {
	case api.LPos:
		return isFact(under(lit.Atom, binds), l)
	case api.LNot:
		return !isFact(under(lit.Atom, binds), l)
	}
	a, ok := term.Eval(lit.Left, binds)
	b, too := term.Eval(lit.Right, binds)
	return ok && too && value.Holds(lit.Rel, a, b)
}

func assigned(binds []api.Bind, name string) bool {
	return slices.ContainsFunc(binds, func(b api.Bind) bool { return b.Var == name })
}

// equated adds what the equations of a body give, over and over.
func equated(body []api.Literal, binds []api.Bind) []api.Bind {
	for range body {
		for _, lit := range body {
			for _, side := range [][2]api.Expr{{lit.Left, lit.Right}, {lit.Right, lit.Left}} {
				name := side[0].Term.Var
				if lit.Kind != api.LCmp || lit.Rel != api.RelEq || name == "" || assigned(binds, name) {
					continue
				}
				if val, ok := term.Eval(side[1], binds); ok {
					binds = append(binds, api.Bind{Var: name, Val: val})
				}
			}
		}
	}
	return binds
}

func isSolution(body []api.Literal, l []api.Fact, binds []api.Bind) bool {
	for _, name := range term.RuleVars(api.Rule{Body: body}) {
		if !assigned(binds, name) {
			return false
		}
	}
	for _, lit := range body {
		if !holds(lit, l, binds) {
			return false
		}
	}
	return true
}

// slowRun goes through all facts of the spans, one LPos within the other in the plan's order.
func slowRun(l []api.Fact, p api.Plan, from, to []int) []api.Fact {
	var order []int
	for _, s := range p.Steps {
		if p.Rule.Body[s.Lit].Kind == api.LPos {
			order = append(order, s.Lit)
		}
	}
	var out []api.Fact
	var choose func(left []int, binds []api.Bind)
	choose = func(left []int, binds []api.Bind) {
		if len(left) == 0 {
			if binds = equated(p.Rule.Body, binds); isSolution(p.Rule.Body, l, binds) {
				out = append(out, headUnder(p.Rule, binds))
			}
			return
		}
		a := p.Rule.Body[left[0]].Atom
		for _, f := range byNumber(l, a.Pred)[from[left[0]]:to[left[0]]] {
			if more, ok := term.Match(under(a, binds), f); ok {
				choose(left[1:], append(slices.Clone(binds), more...))
			}
		}
	}
	choose(order, nil)
	return out
}

func headUnder(r api.Rule, binds []api.Bind) api.Fact {
	a, _ := term.Head(r)
	f := api.Fact{Pred: r.Pred}
	for _, t := range under(a, binds).Args {
		f.Args = append(f.Args, t.Val)
	}
	return f
}

// slowSolutions tries all values of the facts for the variables of the atoms.
func slowSolutions(body []api.Literal, l []api.Fact) [][]api.Bind {
	var all []api.Value
	for _, f := range l {
		all = append(all, f.Args...)
	}
	var tuples [][]api.Value
	for _, v := range all {
		tuples = append(tuples, []api.Value{v})
	}
	tuples = value.Tuples(tuples)
	var atoms []api.Literal
	for _, lit := range body {
		if lit.Kind == api.LPos {
			atoms = append(atoms, lit)
		}
	}
	names := term.RuleVars(api.Rule{Body: body})
	var found [][]api.Value
	var assign func(left []string, binds []api.Bind)
	assign = func(left []string, binds []api.Bind) {
		if len(left) > 0 {
			for _, t := range tuples {
				assign(left[1:], append(slices.Clone(binds), api.Bind{Var: left[0], Val: t[0]}))
			}
			return
		}
		if binds = equated(body, binds); isSolution(body, l, binds) {
			var row []api.Value
			for _, name := range names {
				row = append(row, binds[slices.IndexFunc(binds, func(b api.Bind) bool { return b.Var == name })].Val)
			}
			found = append(found, row)
		}
	}
	assign(term.RuleVars(api.Rule{Body: atoms}), nil)
	var out [][]api.Bind
	for _, row := range value.Tuples(found) {
		var binds []api.Bind
		for i, name := range names {
			binds = append(binds, api.Bind{Var: name, Val: row[i]})
		}
		out = append(out, binds)
	}
	return out
}

// P13.4, P13.5: Run of any rules, right plans and spans, while facts come.
func TestRunOfAnything(t *testing.T) {
	d := dice(1)
	some, most := 0, 0
	for range 4000 {
		l := d.facts(14)
		w := worldOf(t, l...)
		for range 4 {
			p := d.plan(t, d.rule(5))
			from, to := d.spans(w, p.Rule)
			want := slowRun(l, p, from, to)
			wantRun(t, w, p, from, to, show(want))
			if len(want) > 0 {
				some++
			}
			most = max(most, len(want))
			for _, f := range d.facts(2) {
				w.Add(f)
				l = append(l, f)
			}
			wantFacts(t, w, show(value.Facts(l)))
		}
	}
	if some < 4000 || most < 50 {
		t.Errorf("%d runs alone gave anything, %d facts at most", some, most)
	}
}

// P13.6: Solutions of any bodies over any facts.
func TestSolutionsOfAnything(t *testing.T) {
	d := dice(2)
	some, most := 0, 0
	for range 2500 {
		l, body := d.facts(12), d.rule(5).Body
		want := slowSolutions(body, l)
		wantSolutions(t, body, l, showBinds(want))
		if len(want) > 0 {
			some++
		}
		most = max(most, len(want))
	}
	if some < 400 || most < 10 {
		t.Errorf("%d bodies alone had solutions, %d at most", some, most)
	}
}

// broken turns one thing of a literal or a fact, so that it mostly is none as it may be, or has another number of columns.
func (d *dice) broken(lit api.Literal) api.Literal {
	switch d.below(7) {
	case 0:
		lit.Kind = api.LitKind(d.below(6) - 1)
	case 1:
		lit.Rel = api.Rel(d.below(9) - 1)
	case 2:
		lit.Atom.Pred = d.one("", "E", "e", "n", "not", "_", "p")
	case 3:
		lit.Atom.Args = append(slices.Clone(lit.Atom.Args), v(d.one("X", "x", "_", "", "Y")))
	case 4:
		lit.Left = op(api.Op(d.below(13)-1), d.expr(1))
	case 5:
		lit.Atom.Args = nil
	case 6:
		return not("n", v(d.one("Q", "X")))
	}
	return lit
}

// slowCode says the first error of Solutions, by P13.6's words.
func slowCode(body []api.Literal, l []api.Fact) api.Errno {
	r := api.Rule{Pred: "someother", Body: body}
	if term.CheckRule(r) != api.OK {
		return api.ErrTerm
	}
	for _, name := range term.RuleVars(r) {
		if !slices.Contains(check.Limited(body), name) {
			return api.ErrSafe
		}
	}
	for _, f := range l {
		if check.Job(nil, []api.Fact{f}) != api.OK {
			return api.ErrValue
		}
	}
	columns := map[string]int{}
	var all []api.Pred
	for _, lit := range body {
		if lit.Kind != api.LCmp {
			all = append(all, api.Pred{Name: lit.Atom.Pred, Arity: len(lit.Atom.Args)})
		}
	}
	for _, f := range l {
		all = append(all, api.Pred{Name: f.Pred, Arity: len(f.Args)})
	}
	for _, p := range all {
		if n, ok := columns[p.Name]; ok && n != p.Arity {
			return api.ErrArity
		}
		columns[p.Name] = p.Arity
	}
	return api.OK
}

// P13.6, R1: bodies and facts of which some are none.
func TestSolutionsOfWhatMayNotBe(t *testing.T) {
	d := dice(3)
	told := map[api.Errno]int{}
	for range 6000 {
		l, body := d.facts(6), d.rule(4).Body
		for i, lit := range body {
			if d.below(6) == 0 {
				body[i] = d.broken(lit)
			}
		}
		switch {
		case d.below(6) == 0:
			l = append(l, noFacts()[d.below(len(noFacts()))], d.fact())
		case d.below(4) == 0:
			l = append(l, wide(d.one("e", "n", "g", "z"), d.below(4)))
		}
		want := slowCode(body, l)
		told[want]++
		if want != api.OK {
			wantNone(t, body, l, want)
		} else if _, err := join.Solutions(body, l); err != api.OK {
			t.Fatalf("Solutions(%s, %s): %d", brief(body), brief(show(l)), err)
		}
	}
	for _, code := range []api.Errno{api.OK, api.ErrTerm, api.ErrSafe, api.ErrValue, api.ErrArity} {
		if told[code] < 100 {
			t.Errorf("%d was told %d times alone", code, told[code])
		}
	}
}

// slowRefusal says the first error of Run over facts, by P13.4's words.
func slowRefusal(l []api.Fact, p api.Plan, from, to []int) api.Errno {
	if !plan.Right(p, nil) {
		return api.ErrPlan
	}
	for _, a := range p.Rule.Head {
		if a.Agg != api.AggNone {
			return api.ErrLevel
		}
	}
	if _, err := check.Preds(api.Program{Rules: []api.Rule{p.Rule}}, l); err != api.OK {
		return err
	}
	if len(from) != len(p.Rule.Body) || len(to) != len(p.Rule.Body) {
		return api.ErrArg
	}
	for i, lit := range p.Rule.Body {
		if lit.Kind != api.LPos && (from[i] != 0 || to[i] != 0) {
			return api.ErrArg
		}
		if lit.Kind == api.LPos && !(0 <= from[i] && from[i] <= to[i] && to[i] <= len(byNumber(l, lit.Atom.Pred))) {
			return api.ErrArg
		}
	}
	return api.OK
}

// P13.4, R1: plans and spans of which something was turned.
func TestRunOfWhatMayNotBe(t *testing.T) {
	d := dice(4)
	told := map[api.Errno]int{}
	for range 8000 {
		l := d.facts(10)
		w := worldOf(t, l...)
		r := d.rule(4)
		if d.below(6) == 0 {
			r.Head = append(r.Head, api.Arg{Agg: api.AggCount})
		}
		if d.below(5) == 0 {
			r.Pred = d.one("e", "n", "g", "t", "ghost")
		}
		p := d.plan(t, r)
		from, to := d.spans(w, p.Rule)
		if len(p.Steps) > 0 && d.below(5) == 0 {
			s := &p.Steps[d.below(len(p.Steps))]
			s.Lit, s.Kind, s.Known = s.Lit+d.below(2), s.Kind+api.StepKind(d.below(2)), s.Known^api.Mask(d.below(2))
		}
		if len(from) > 0 && d.below(3) == 0 {
			i := d.below(len(from))
			from[i], to[i] = from[i]+d.below(3)-1, to[i]+d.below(3)-1
		}
		if d.below(10) == 0 {
			from = append(from, 0)
		}
		if d.below(10) == 0 {
			to = append(to, 0)
		}
		want := slowRefusal(l, p, from, to)
		told[want]++
		if want != api.OK {
			wantRefused(t, w, p, from, to, want)
		} else {
			wantRun(t, w, p, from, to, show(slowRun(l, p, from, to)))
		}
		wantFacts(t, w, show(value.Facts(l)))
	}
	for _, code := range []api.Errno{api.OK, api.ErrPlan, api.ErrLevel, api.ErrArity, api.ErrArg} {
		if told[code] < 200 {
			t.Errorf("%d was told %d times alone", code, told[code])
		}
	}
}
