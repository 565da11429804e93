package group_test

import (
	"slices"
	"testing"

	"pedigree/api"
	"pedigree/term"
	"pedigree/value"
)

// dice are numbers that look thrown and are the same in each run.
type dice uint64

func (d *dice) below(n int) int {
	*d = *d*6364136223846793005 + 1442695040888963407
	return int(uint64(*d) >> 33 % uint64(n))
}

func (d *dice) one(l ...string) string { return l[d.below(len(l))] }

// preds are those of wild bodies; of ghost there are no facts.
func preds() []api.Pred {
	return []api.Pred{{Name: "g"}, {Name: "n", Arity: 1}, {Name: "e", Arity: 2}, {Name: "e", Arity: 2}, {Name: "t", Arity: 3}, {Name: "ghost", Arity: 1}}
}

func (d *dice) pred() api.Pred { return preds()[d.below(6)] }

// value is now and then a number that wraps if it stands with others in a sum.
func (d *dice) value() api.Value {
	switch d.below(30) {
	case 0, 1:
		return text(d.one("", "a", "1", "ab"))
	case 2:
		return num(1<<63 - 1)
	case 3:
		return num(-1 << 63)
	}
	return num(int64(d.below(4) - 1))
}

// factOf is any fact of a predicate.
func (d *dice) factOf(p api.Pred) api.Fact {
	f := api.Fact{Pred: p.Name}
	for range p.Arity {
		f.Args = append(f.Args, d.value())
	}
	return f
}

func (d *dice) facts(most int) []api.Fact {
	var out []api.Fact
	for range d.below(most + 1) {
		out = append(out, d.factOf(preds()[d.below(5)]))
	}
	return out
}

func (d *dice) term() api.Term {
	switch d.below(10) {
	case 0:
		return api.Term{Val: d.value()}
	case 1:
		return v("_")
	}
	return v(d.one("X", "Y", "Z"))
}

func (d *dice) expr(deep int) api.Expr {
	if deep == 0 || d.below(2) == 0 {
		if d.below(4) == 0 {
			return ex(api.Term{Val: d.value()})
		}
		return ex(v(d.one("X", "Y", "Z", "W")))
	}
	switch o := api.OpNeg + api.Op(d.below(int(api.OpBack))); o {
	case api.OpNeg, api.OpLen, api.OpChars, api.OpBack:
		return op(o, d.expr(deep-1))
	default:
		return op(o, d.expr(deep-1), d.expr(deep-1))
	}
}

func (d *dice) atom(p api.Pred) api.Atom {
	a := api.Atom{Pred: p.Name}
	for range p.Arity {
		a.Args = append(a.Args, d.term())
	}
	return a
}

func (d *dice) literal() api.Literal {
	switch d.below(10) {
	case 0:
		return api.Literal{Kind: api.LNot, Atom: d.atom(d.pred())}
	case 1:
		return cmp(d.expr(1), api.RelEq+api.Rel(d.below(6)), d.expr(1))
	case 2:
		return cmp(ex(v(d.one("Z", "W"))), api.RelEq, d.expr(2))
	}
	return api.Literal{Kind: api.LPos, Atom: d.atom(preds()[d.below(4)+1+d.below(8)/7])}
}

// arg is any argument of a head over these variables.
func (d *dice) arg(names []string) api.Arg {
	if len(names) == 0 {
		if d.below(2) == 0 {
			return count()
		}
		return api.Arg{Term: api.Term{Val: d.value()}}
	}
	name := v(d.one(names...))
	switch d.below(12) {
	case 0, 1:
		return count()
	case 2, 3:
		return api.Arg{Agg: api.AggSum, Term: name}
	case 4:
		return api.Arg{Agg: api.AggMin, Term: name}
	case 5:
		return api.Arg{Agg: api.AggMax, Term: name}
	case 6:
		return api.Arg{Term: api.Term{Val: d.value()}}
	}
	return api.Arg{Term: name}
}

// body is one that limits all its variables.
func (d *dice) body() []api.Literal {
	for {
		var out []api.Literal
		if d.below(2) == 0 {
			out = append(out, pos("t", v("X"), v("Y"), v(d.one("Z", "Z", "_"))))
		}
		for range min(d.below(6), 2) {
			out = append(out, d.literal())
		}
		if isSafe(api.Rule{Body: out}) {
			return out
		}
	}
}

// rule is one that may be used, mostly with aggregates.
func (d *dice) rule() api.Rule {
	r := api.Rule{Pred: d.one("p", "q", "q_r"), Body: d.body()}
	names := term.RuleVars(r)
	for range 1 + d.below(5) {
		r.Head = append(r.Head, d.arg(names))
	}
	return r
}

// grouped is a rule with aggregates.
func (d *dice) grouped() api.Rule {
	for {
		if r := d.rule(); hasAggregate(r) {
			return r
		}
	}
}

func hasAggregate(r api.Rule) bool {
	return slices.ContainsFunc(r.Head, func(a api.Arg) bool { return a.Agg != api.AggNone })
}

// isSafe: DOC.md, 'Limited'.
func isSafe(r api.Rule) bool {
	var limited []string
	for _, lit := range r.Body {
		if lit.Kind == api.LPos {
			limited = append(limited, term.AtomVars(lit.Atom)...)
		}
	}
	for range r.Body {
		for _, lit := range r.Body {
			if lit.Kind != api.LCmp || lit.Rel != api.RelEq {
				continue
			}
			for _, side := range [][2]api.Expr{{lit.Left, lit.Right}, {lit.Right, lit.Left}} {
				if side[0].Term.Var != "" && areAmong(term.ExprVars(side[1]), limited) {
					limited = append(limited, side[0].Term.Var)
				}
			}
		}
	}
	return areAmong(term.RuleVars(r), limited)
}

func areAmong(some, all []string) bool {
	return !slices.ContainsFunc(some, func(name string) bool { return !slices.Contains(all, name) })
}

// replaced is an atom whose variables are their values.
func replaced(a api.Atom, l []api.Bind) api.Atom {
	var pairs []api.Pair
	for _, b := range l {
		pairs = append(pairs, api.Pair{Var: b.Var, Term: api.Term{Val: b.Val}})
	}
	return term.Apply(pairs, a)
}

// holds: does a literal hold over the facts, by DOC.md's words? (The binds assign all its variables.)
func holds(lit api.Literal, l []api.Fact, binds []api.Bind) bool {
	if lit.Kind == api.LCmp {
		a, ok := term.Eval(lit.Left, binds)
		b, too := term.Eval(lit.Right, binds)
		return ok && too && value.Holds(lit.Rel, a, b)
	}
	a := replaced(lit.Atom, binds)
	return slices.ContainsFunc(l, func(f api.Fact) bool {
		_, ok := term.Match(a, f)
		return ok
	}) == (lit.Kind == api.LPos)
}

func isAssigned(binds []api.Bind, name string) bool {
	return slices.ContainsFunc(binds, func(b api.Bind) bool { return b.Var == name })
}

// equated adds what the equations of a body give, over and over.
func equated(body []api.Literal, binds []api.Bind) []api.Bind {
	for range body {
		for _, lit := range body {
			for _, side := range [][2]api.Expr{{lit.Left, lit.Right}, {lit.Right, lit.Left}} {
				name := side[0].Term.Var
				if lit.Kind != api.LCmp || lit.Rel != api.RelEq || name == "" || isAssigned(binds, name) {
					continue
				}
				if val, ok := term.Eval(side[1], binds); ok {
					binds = append(binds, api.Bind{Var: name, Val: val})
				}
			}
		}
	}
	return binds
}

// valueOf is a variable's value under a solution.
func valueOf(binds []api.Bind, name string) api.Value {
	return binds[slices.IndexFunc(binds, func(b api.Bind) bool { return b.Var == name })].Val
}

func isSame(a, b []api.Bind) bool {
	return !slices.ContainsFunc(a, func(x api.Bind) bool { return valueOf(b, x.Var) != x.Val })
}

// slowSolutions goes through all facts for each LPos, one within the other.
func slowSolutions(body []api.Literal, l []api.Fact) [][]api.Bind {
	var out [][]api.Bind
	var choose func(left []api.Literal, binds []api.Bind)
	choose = func(left []api.Literal, binds []api.Bind) {
		if len(left) == 0 {
			binds = equated(body, binds)
			if !slices.ContainsFunc(body, func(lit api.Literal) bool { return !holds(lit, l, binds) }) {
				if !slices.ContainsFunc(out, func(x []api.Bind) bool { return isSame(x, binds) }) {
					out = append(out, binds)
				}
			}
			return
		}
		if left[0].Kind != api.LPos {
			choose(left[1:], binds)
			return
		}
		a := replaced(left[0].Atom, binds)
		for _, f := range l {
			if more, ok := term.Match(a, f); ok {
				choose(left[1:], append(slices.Clone(binds), more...))
			}
		}
	}
	choose(body, nil)
	return out
}

// comesTo is what an aggregate comes to over a group; false: nothing. ('What an aggregate comes to')
func comesTo(a api.Arg, solutions [][]api.Bind) (api.Value, bool) {
	if a.Agg == api.AggCount {
		return num(int64(len(solutions))), true
	}
	var all []api.Value
	for _, binds := range solutions {
		all = append(all, valueOf(binds, a.Term.Var))
	}
	switch a.Agg {
	case api.AggMin:
		return slices.MinFunc(all, value.Compare), true
	case api.AggMax:
		return slices.MaxFunc(all, value.Compare), true
	}
	total := num(0)
	for _, v := range all {
		if v.Kind != api.KNum {
			return api.Value{}, false
		}
		total.Num += v.Num
	}
	return total, true
}

// plainValues are the values of a head's plain arguments under a solution.
func plainValues(r api.Rule, binds []api.Bind) []api.Value {
	var out []api.Value
	for _, a := range r.Head {
		switch {
		case a.Agg != api.AggNone:
		case a.Term.Var == "":
			out = append(out, a.Term.Val)
		default:
			out = append(out, valueOf(binds, a.Term.Var))
		}
	}
	return out
}

// slowGroups puts solutions together by going through the groups that there are. ('The groups')
func slowGroups(r api.Rule, solutions [][]api.Bind) [][][]api.Bind {
	var out [][][]api.Bind
	for _, binds := range solutions {
		i := slices.IndexFunc(out, func(g [][]api.Bind) bool { return slices.Equal(plainValues(r, g[0]), plainValues(r, binds)) })
		if i < 0 {
			out = append(out, [][]api.Bind{binds})
		} else {
			out[i] = append(out[i], binds)
		}
	}
	return out
}

// slowGives: also how many groups there are, whatever they give. ('What a group gives')
func slowGives(r api.Rule, l []api.Fact) ([]api.Fact, int) {
	var out []api.Fact
	all := slowGroups(r, slowSolutions(r.Body, l))
	for _, solutions := range all {
		f := api.Fact{Pred: r.Pred}
		plain := plainValues(r, solutions[0])
		for _, a := range r.Head {
			if a.Agg == api.AggNone {
				f.Args, plain = append(f.Args, plain[0]), plain[1:]
			} else if v, ok := comesTo(a, solutions); ok {
				f.Args = append(f.Args, v)
			}
		}
		if len(f.Args) == len(r.Head) {
			out = append(out, f)
		}
	}
	slices.SortFunc(out, value.CompareFacts)
	return out, len(all)
}

// P16.2: any rules over any facts.
func TestGivesOfAnything(t *testing.T) {
	d := dice(1)
	some, most, less, merged := 0, 0, 0, 0
	for range 8000 {
		r, l := d.grouped(), d.facts(40)
		want, groups := slowGives(r, l)
		wantGives(t, r, l, show(want))
		if len(want) > 0 {
			some++
		}
		if len(want) < groups {
			less++
		}
		if len(want) > 1 && groups < len(slowSolutions(r.Body, l)) {
			merged++
		}
		most = max(most, len(want))
	}
	if some < 4000 || less < 300 || merged < 600 || most < 20 {
		t.Errorf("%d rules gave anything, of %d some groups gave nothing, of %d some had several solutions; %d facts at most", some, less, merged, most)
	}
}

// broken turns one thing of a rule, so that it mostly is none as it may be, or may not be used.
func (d *dice) broken(r api.Rule) api.Rule {
	switch d.below(6) {
	case 0:
		r.Pred = d.one("", "P", "not", "p", "e", "_")
	case 1:
		r.Head = append(slices.Clone(r.Head), api.Arg{Agg: api.Agg(d.below(7) - 1), Term: d.term()})
	case 2:
		r.Body = append(slices.Clone(r.Body), api.Literal{Kind: api.LitKind(d.below(6) - 1), Atom: d.atom(d.pred())})
	case 3:
		r.Body = append(slices.Clone(r.Body), api.Literal{Kind: api.LNot, Atom: api.Atom{Pred: d.one("e", "n", "p", "new", "E"), Args: []api.Term{v(d.one("X", "U", "_", "u"))}}})
	case 4:
		r.Body = append(slices.Clone(r.Body), cmp(d.expr(1), api.Rel(d.below(9)-1), api.Expr{Op: api.Op(d.below(13) - 1), Kids: []api.Expr{d.expr(1)}}))
	case 5:
		r.Head = append(slices.Clone(r.Head), sum(d.one("X", "U", "_", "")))
	}
	return r
}

// slowJob says the first error of Job of one rule, by P7.6's words.
func slowJob(r api.Rule, l []api.Fact) api.Errno {
	columns := map[string]int{}
	clash := false
	note := func(name string, n int) {
		before, ok := columns[name]
		clash = clash || ok && before != n
		columns[name] = n
	}
	if term.CheckRule(r) != api.OK {
		return api.ErrTerm
	}
	if !isSafe(r) {
		return api.ErrSafe
	}
	note(r.Pred, len(r.Head))
	for _, lit := range r.Body {
		if lit.Kind != api.LCmp {
			note(lit.Atom.Pred, len(lit.Atom.Args))
		}
	}
	for _, f := range l {
		if f.Pred == "E" || slices.ContainsFunc(f.Args, func(v api.Value) bool { return value.Check(v) != api.OK }) {
			return api.ErrValue
		}
		note(f.Pred, len(f.Args))
	}
	if clash {
		return api.ErrArity
	}
	return api.OK
}

// P16.1, R1: rules and facts of which some are none.
func TestWhatMayNotBe(t *testing.T) {
	d := dice(2)
	told := map[api.Errno]int{}
	for range 8000 {
		r, l := d.rule(), d.facts(6)
		if d.below(3) == 0 {
			r = d.broken(r)
		}
		switch d.below(12) {
		case 0:
			l = append(l, fact("E"), d.factOf(preds()[2]))
		case 1:
			l = append(l, fact("e", num(1), api.Value{Kind: 3}))
		case 2:
			l = append(l, wide(d.one("e", "n", "p", "g", "z"), d.below(3)))
		}
		want := slowJob(r, l)
		if want == api.OK && !hasAggregate(r) {
			want = api.ErrArg
		}
		wantCode(t, r, l, want)
		told[want]++
	}
	for _, code := range []api.Errno{api.OK, api.ErrTerm, api.ErrSafe, api.ErrValue, api.ErrArity, api.ErrArg} {
		if told[code] < 150 {
			t.Errorf("%d was told %d times alone", code, told[code])
		}
	}
}
