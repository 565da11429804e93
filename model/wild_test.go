package model_test

import (
	"slices"
	"testing"

	"pedigree/api"
	"pedigree/model"
	"pedigree/term"
	"pedigree/value"
)

// dice are numbers that look thrown and are the same in each run.
type dice uint64

func (d *dice) below(n int) int {
	*d = *d*6364136223846793005 + 1442695040888963407
	return int(uint64(*d) >> 33 % uint64(n))
}

func (d *dice) one(l ...string) string { return l[d.below(len(l))] }

func (d *dice) pred(l []api.Pred) api.Pred { return l[d.below(len(l))] }

// given are the predicates of wild facts and bodies that mostly have no rules; of ghost there are no facts.
func given() []api.Pred {
	return []api.Pred{{Name: "e", Arity: 2}, {Name: "e", Arity: 2}, {Name: "n", Arity: 1}, {Name: "g"}, {Name: "ghost", Arity: 1}}
}

// ruled are those of wild rules, which mostly look strictly at those ahead of them alone.
func ruled() []api.Pred {
	return []api.Pred{{Name: "t", Arity: 2}, {Name: "a", Arity: 1}, {Name: "b", Arity: 1}, {Name: "u", Arity: 2}, {Name: "c", Arity: 1}, {Name: "z"}, {Name: "q_w", Arity: 2}}
}

func (d *dice) value() api.Value {
	if d.below(12) == 0 {
		return text(d.one("", "a", "1", "ab"))
	}
	return num(int64(d.below(5) - 1))
}

// factOf is any fact of a predicate.
func (d *dice) factOf(p api.Pred) api.Fact {
	f := api.Fact{Pred: p.Name}
	for range p.Arity {
		f.Args = append(f.Args, d.value())
	}
	return f
}

func (d *dice) facts(most int) []api.Fact {
	var out []api.Fact
	for range d.below(most + 1) {
		if d.below(5) == 0 {
			out = append(out, d.factOf(d.pred(ruled())))
		} else {
			out = append(out, d.factOf(d.pred(given()[:4])))
		}
	}
	return out
}

func (d *dice) term() api.Term {
	switch d.below(10) {
	case 0:
		return api.Term{Val: d.value()}
	case 1:
		return v("_")
	}
	return v(d.one("X", "Y", "Z"))
}

func (d *dice) expr(deep int) api.Expr {
	if deep == 0 || d.below(2) == 0 {
		if d.below(4) == 0 {
			return ex(api.Term{Val: d.value()})
		}
		return ex(v(d.one("X", "Y", "Z", "W")))
	}
	switch o := api.OpNeg + api.Op(d.below(int(api.OpBack))); o {
	case api.OpNeg, api.OpLen, api.OpChars, api.OpBack:
		return op(o, d.expr(deep-1))
	default:
		return op(o, d.expr(deep-1), d.expr(deep-1))
	}
}

func (d *dice) atom(p api.Pred) api.Atom {
	a := api.Atom{Pred: p.Name}
	for range p.Arity {
		a.Args = append(a.Args, d.term())
	}
	return a
}

// seen is a predicate at which a rule for the i-th ruled one looks; strictly: mostly one ahead of it.
func (d *dice) seen(i int, strictly bool) api.Pred {
	switch {
	case i == 0 || d.below(3) == 0:
		return d.pred(given())
	case d.below(25) == 0:
		return d.pred(ruled())
	case strictly:
		return d.pred(ruled()[max(0, i-2):i])
	}
	return d.pred(ruled()[max(0, i-2) : i+1])
}

// body is one that limits all its variables.
func (d *dice) body(i int, strictly bool) []api.Literal {
	for {
		var out []api.Literal
		for range 1 + min(d.below(10), 2) {
			switch d.below(9) {
			case 0, 1:
				out = append(out, api.Literal{Kind: api.LNot, Atom: d.atom(d.seen(i, d.below(10) > 0))})
			case 2:
				out = append(out, cmp(d.expr(1), api.RelEq+api.Rel(d.below(6)), d.expr(1)))
			case 3:
				out = append(out, cmp(ex(v(d.one("Z", "W"))), api.RelEq, d.expr(2)))
			default:
				out = append(out, api.Literal{Kind: api.LPos, Atom: d.atom(d.seen(i, strictly))})
			}
		}
		if isSafe(api.Rule{Body: out}) {
			return out
		}
	}
}

func (d *dice) arg(names []string, aggregates bool) api.Arg {
	if aggregates && d.below(2) == 0 {
		if len(names) == 0 || d.below(2) == 0 {
			return count()
		}
		return api.Arg{Agg: api.AggSum + api.Agg(d.below(3)), Term: v(d.one(names...))}
	}
	if len(names) == 0 || d.below(6) == 0 {
		return api.Arg{Term: api.Term{Val: d.value()}}
	}
	return api.Arg{Term: v(d.one(names...))}
}

// rule is one that may be used, for the i-th ruled predicate.
func (d *dice) rule(i int) api.Rule {
	p := ruled()[i]
	aggregates := d.below(4) == 0
	r := api.Rule{Pred: p.Name, Body: d.body(i, d.below(8) > 0 && (aggregates || d.below(3) > 0))}
	if d.below(12) == 0 {
		r.Body = nil
	}
	names := term.RuleVars(r)
	for range p.Arity {
		r.Head = append(r.Head, d.arg(names, aggregates))
	}
	return r
}

// linked is a rule by which facts come from others step by step.
func (d *dice) linked() api.Rule {
	name := d.one("t", "t", "u")
	return api.Rule{Pred: name, Head: head(v("X"), v("Z")), Body: []api.Literal{pos(d.one("e", name), v("X"), v("Y")), pos(d.one("e", name), v("Y"), v("Z"))}}
}

// made is a rule that makes values, mostly of those of a predicate ahead.
func (d *dice) made() api.Rule {
	names := []string{"n", "a", "b", "c"}
	i := 1 + d.below(3)
	from := d.one(names[:i]...)
	if d.below(3) == 0 {
		from = d.one(names...)
	}
	return api.Rule{Pred: names[i], Head: head(v("Y")), Body: []api.Literal{pos(from, v("X")), cmp(ex(v("Y")), api.RelEq, op(api.OpAdd, ex(v("X")), d.expr(0)))}}
}

func (d *dice) program(most int) api.Program {
	var out api.Program
	first := d.below(len(ruled()))
	for i := range d.below(most + 1) {
		switch r := d.made(); {
		case d.below(5) == 0:
			out.Rules = append(out.Rules, d.linked())
		case d.below(8) == 0 && isSafe(r):
			out.Rules = append(out.Rules, r)
		default:
			out.Rules = append(out.Rules, d.rule((first+i)%len(ruled())))
		}
	}
	return out
}

// leveled is a program that has levels.
func (d *dice) leveled(most int) api.Program {
	for {
		p := d.program(most)
		if _, err := slowLevels(p); err == api.OK {
			return p
		}
	}
}

// isSafe: DOC.md, 'Limited'.
func isSafe(r api.Rule) bool {
	var limited []string
	for _, lit := range r.Body {
		if lit.Kind == api.LPos {
			limited = append(limited, term.AtomVars(lit.Atom)...)
		}
	}
	for range r.Body {
		for _, lit := range r.Body {
			if lit.Kind != api.LCmp || lit.Rel != api.RelEq {
				continue
			}
			for _, side := range [][2]api.Expr{{lit.Left, lit.Right}, {lit.Right, lit.Left}} {
				if side[0].Term.Var != "" && areAmong(term.ExprVars(side[1]), limited) {
					limited = append(limited, side[0].Term.Var)
				}
			}
		}
	}
	return areAmong(term.RuleVars(r), limited)
}

func areAmong(some, all []string) bool {
	return !slices.ContainsFunc(some, func(name string) bool { return !slices.Contains(all, name) })
}

func hasAggregate(r api.Rule) bool {
	return slices.ContainsFunc(r.Head, func(a api.Arg) bool { return a.Agg != api.AggNone })
}

// makesValues: DOC.md, 'A rule makes values'.
func makesValues(r api.Rule) bool {
	operation, made := false, false
	var atoms []string
	for _, lit := range r.Body {
		if lit.Kind == api.LPos {
			atoms = append(atoms, term.AtomVars(lit.Atom)...)
		}
		operation = operation || len(lit.Left.Kids)+len(lit.Right.Kids) > 0
	}
	for _, a := range r.Head {
		made = made || a.Term.Var != "" && !slices.Contains(atoms, a.Term.Var)
	}
	return operation && made
}

// look is a rule's look at a predicate: the error that it comes to, if it is strict and lies in a cycle; OK: it is not strict.
type look struct {
	from, to string
	strict   api.Errno
}

func looksOf(p api.Program) []look {
	var out []look
	for _, r := range p.Rules {
		for _, lit := range r.Body {
			switch {
			case lit.Kind == api.LNot:
				out = append(out, look{r.Pred, lit.Atom.Pred, api.ErrNegCycle})
			case lit.Kind == api.LPos && hasAggregate(r):
				out = append(out, look{r.Pred, lit.Atom.Pred, api.ErrAggCycle})
			case lit.Kind == api.LPos && makesValues(r):
				out = append(out, look{r.Pred, lit.Atom.Pred, api.ErrMakeCycle})
			case lit.Kind == api.LPos:
				out = append(out, look{r.Pred, lit.Atom.Pred, api.OK})
			}
		}
	}
	return out
}

// comesTo: does a way along the looks lead from one predicate to another?
func comesTo(l []look, from, to string) bool {
	found := []string{from}
	for i := 0; i < len(found); i++ {
		for _, x := range l {
			if x.from == found[i] && !slices.Contains(found, x.to) {
				found = append(found, x.to)
			}
		}
	}
	return slices.Contains(found, to)
}

// slowLevels: DOC.md, 'Levels'; or the error of the first strict look that lies in a cycle.
func slowLevels(p api.Program) (map[string]int, api.Errno) {
	l := looksOf(p)
	for _, x := range l {
		if x.strict != api.OK && comesTo(l, x.to, x.from) {
			return nil, x.strict
		}
	}
	out := map[string]int{}
	for raised := true; raised; {
		raised = false
		for _, x := range l {
			least := out[x.to]
			if x.strict != api.OK {
				least++
			}
			if out[x.from] < least {
				out[x.from], raised = least, true
			}
		}
	}
	return out, api.OK
}

// replaced is an atom whose variables are their values.
func replaced(a api.Atom, l []api.Bind) api.Atom {
	var pairs []api.Pair
	for _, b := range l {
		pairs = append(pairs, api.Pair{Var: b.Var, Term: api.Term{Val: b.Val}})
	}
	return term.Apply(pairs, a)
}

// holds: does a literal hold over the facts, by DOC.md's words? (The binds assign all its variables.)
func holds(lit api.Literal, l []api.Fact, binds []api.Bind) bool {
	if lit.Kind == api.LCmp {
		a, ok := term.Eval(lit.Left, binds)
		b, too := term.Eval(lit.Right, binds)
		return ok && too && value.Holds(lit.Rel, a, b)
	}
	a := replaced(lit.Atom, binds)
	return slices.ContainsFunc(l, func(f api.Fact) bool {
		_, ok := term.Match(a, f)
		return ok
	}) == (lit.Kind == api.LPos)
}

func isAssigned(binds []api.Bind, name string) bool {
	return slices.ContainsFunc(binds, func(b api.Bind) bool { return b.Var == name })
}

// equated adds what the equations of a body give, over and over.
func equated(body []api.Literal, binds []api.Bind) []api.Bind {
	for range body {
		for _, lit := range body {
			for _, side := range [][2]api.Expr{{lit.Left, lit.Right}, {lit.Right, lit.Left}} {
				name := side[0].Term.Var
				if lit.Kind != api.LCmp || lit.Rel != api.RelEq || name == "" || isAssigned(binds, name) {
					continue
				}
				if val, ok := term.Eval(side[1], binds); ok {
					binds = append(binds, api.Bind{Var: name, Val: val})
				}
			}
		}
	}
	return binds
}

// valueOf is a variable's value under a solution.
func valueOf(binds []api.Bind, name string) api.Value {
	return binds[slices.IndexFunc(binds, func(b api.Bind) bool { return b.Var == name })].Val
}

func isSame(a, b []api.Bind) bool {
	return !slices.ContainsFunc(a, func(x api.Bind) bool { return valueOf(b, x.Var) != x.Val })
}

// slowSolutions goes through all facts for each LPos, one within the other.
func slowSolutions(body []api.Literal, l []api.Fact) [][]api.Bind {
	var out [][]api.Bind
	var choose func(left []api.Literal, binds []api.Bind)
	choose = func(left []api.Literal, binds []api.Bind) {
		if len(left) == 0 {
			binds = equated(body, binds)
			if !slices.ContainsFunc(body, func(lit api.Literal) bool { return !holds(lit, l, binds) }) {
				if !slices.ContainsFunc(out, func(x []api.Bind) bool { return isSame(x, binds) }) {
					out = append(out, binds)
				}
			}
			return
		}
		if left[0].Kind != api.LPos {
			choose(left[1:], binds)
			return
		}
		a := replaced(left[0].Atom, binds)
		for _, f := range l {
			if more, ok := term.Match(a, f); ok {
				choose(left[1:], append(slices.Clone(binds), more...))
			}
		}
	}
	choose(body, nil)
	return out
}

// slowAggregate is what an aggregate comes to over a group; false: nothing. (Chapter 16)
func slowAggregate(a api.Arg, solutions [][]api.Bind) (api.Value, bool) {
	if a.Agg == api.AggCount {
		return num(int64(len(solutions))), true
	}
	var all []api.Value
	for _, binds := range solutions {
		all = append(all, valueOf(binds, a.Term.Var))
	}
	switch a.Agg {
	case api.AggMin:
		return slices.MinFunc(all, value.Compare), true
	case api.AggMax:
		return slices.MaxFunc(all, value.Compare), true
	}
	total := num(0)
	for _, v := range all {
		if v.Kind != api.KNum {
			return api.Value{}, false
		}
		total.Num += v.Num
	}
	return total, true
}

// plainValues are the values of a head's plain arguments under a solution.
func plainValues(r api.Rule, binds []api.Bind) []api.Value {
	var out []api.Value
	for _, a := range r.Head {
		switch {
		case a.Agg != api.AggNone:
		case a.Term.Var == "":
			out = append(out, a.Term.Val)
		default:
			out = append(out, valueOf(binds, a.Term.Var))
		}
	}
	return out
}

// slowGroups puts solutions together by going through the groups that there are.
func slowGroups(r api.Rule, solutions [][]api.Bind) [][][]api.Bind {
	var out [][][]api.Bind
	for _, binds := range solutions {
		i := slices.IndexFunc(out, func(g [][]api.Bind) bool { return slices.Equal(plainValues(r, g[0]), plainValues(r, binds)) })
		if i < 0 {
			out = append(out, [][]api.Bind{binds})
		} else {
			out[i] = append(out[i], binds)
		}
	}
	return out
}

// slowGives: DOC.md, 'A rule gives'. (Of a rule without aggregates each group is what gives one fact.)
func slowGives(r api.Rule, l []api.Fact) []api.Fact {
	var out []api.Fact
	for _, solutions := range slowGroups(r, slowSolutions(r.Body, l)) {
		f := api.Fact{Pred: r.Pred}
		plain := plainValues(r, solutions[0])
		for _, a := range r.Head {
			if a.Agg == api.AggNone {
				f.Args, plain = append(f.Args, plain[0]), plain[1:]
			} else if v, ok := slowAggregate(a, solutions); ok {
				f.Args = append(f.Args, v)
			}
		}
		if len(f.Args) == len(r.Head) {
			out = append(out, f)
		}
	}
	return out
}

// slowModel: DOC.md, 'The model'.
func slowModel(p api.Program, l []api.Fact, levels map[string]int) []api.Fact {
	all := value.Facts(l)
	for n := range len(levels) + 1 {
		for {
			next := slices.Clone(all)
			for _, r := range p.Rules {
				if levels[r.Pred] == n {
					next = append(next, slowGives(r, all)...)
				}
			}
			next = value.Facts(next)
			if len(next) == len(all) {
				break
			}
			all = next
		}
	}
	return all
}

// uptoLevel are the facts of a model whose predicate's level is at most n.
func uptoLevel(m []api.Fact, levels map[string]int, n int) []api.Fact {
	return slices.DeleteFunc(slices.Clone(m), func(f api.Fact) bool { return levels[f.Pred] > n })
}

func greatest(levels map[string]int) int {
	out := 0
	for _, n := range levels {
		out = max(out, n)
	}
	return out
}

// P17.1 to P17.4: any programs over any facts, or the error of their cycles.
func TestModelOfAnything(t *testing.T) {
	d := dice(1)
	told, heights := map[api.Errno]int{}, map[int]int{}
	most, grown := 0, 0
	for range 3500 {
		p, l := d.program(9), d.facts(16)
		levels, err := slowLevels(p)
		if told[err]++; err != api.OK {
			wantCode(t, p, l, err)
			continue
		}
		want := slowModel(p, l, levels)
		wantModel(t, p, l, show(want))
		wantIs(t, p, l, want, true)
		for n := range greatest(levels) + 2 {
			wantUpto(t, p, l, int32(n), show(uptoLevel(want, levels, n)))
		}
		heights[greatest(levels)]++
		if most = max(most, len(want)); len(want) > len(value.Facts(l))+8 {
			grown++
		}
	}
	for _, code := range []api.Errno{api.OK, api.ErrNegCycle, api.ErrAggCycle, api.ErrMakeCycle} {
		if told[code] < 50 {
			t.Errorf("%d was told %d times alone", code, told[code])
		}
	}
	if heights[0] < 300 || heights[1] < 300 || heights[2] < 300 || heights[3] < 100 || most < 40 || grown < 100 {
		t.Errorf("heights %v, %d facts at most, %d models had many more", heights, most, grown)
	}
}

// broken turns one thing of a rule, so that it mostly is none as it may be, or may not be used.
func (d *dice) broken(r api.Rule) api.Rule {
	switch d.below(6) {
	case 0:
		r.Pred = d.one("", "P", "not", "a", "e", "_")
	case 1:
		r.Head = append(slices.Clone(r.Head), api.Arg{Agg: api.Agg(d.below(7) - 1), Term: d.term()})
	case 2:
		r.Body = append(slices.Clone(r.Body), api.Literal{Kind: api.LitKind(d.below(6) - 1), Atom: d.atom(d.pred(given()))})
	case 3:
		r.Body = append(slices.Clone(r.Body), api.Literal{Kind: api.LNot, Atom: api.Atom{Pred: d.one("e", "n", "a", "new", "E"), Args: []api.Term{v(d.one("X", "U", "_", "u"))}}})
	case 4:
		r.Body = append(slices.Clone(r.Body), cmp(d.expr(1), api.Rel(d.below(9)-1), api.Expr{Op: api.Op(d.below(13) - 1), Kids: []api.Expr{d.expr(1)}}))
	case 5:
		r.Head = append(slices.Clone(r.Head), count())
	}
	return r
}

// slowJob says the first error of Job, by P7.6's words.
func slowJob(rules []api.Rule, l []api.Fact) api.Errno {
	columns := map[string]int{}
	clash := false
	note := func(name string, n int) {
		before, ok := columns[name]
		clash = clash || ok && before != n
		columns[name] = n
	}
	for _, r := range rules {
		if term.CheckRule(r) != api.OK {
			return api.ErrTerm
		}
		if !isSafe(r) {
			return api.ErrSafe
		}
		note(r.Pred, len(r.Head))
		for _, lit := range r.Body {
			if lit.Kind != api.LCmp {
				note(lit.Atom.Pred, len(lit.Atom.Args))
			}
		}
	}
	for _, f := range l {
		if f.Pred == "E" || slices.ContainsFunc(f.Args, func(v api.Value) bool { return value.Check(v) != api.OK }) {
			return api.ErrValue
		}
		note(f.Pred, len(f.Args))
	}
	if clash {
		return api.ErrArity
	}
	return api.OK
}

// P17.1, P17.3, R1: rules and facts of which some are none.
func TestWhatMayNotBe(t *testing.T) {
	d := dice(2)
	told := map[api.Errno]int{}
	for range 5000 {
		p, l := d.program(5), d.facts(6)
		for i, r := range p.Rules {
			if d.below(8) == 0 {
				p.Rules[i] = d.broken(r)
			}
		}
		switch d.below(12) {
		case 0:
			l = append(l, fact("E"), d.factOf(given()[2]))
		case 1:
			l = append(l, fact("e", num(1), api.Value{Kind: 3}))
		case 2:
			l = append(l, fact(d.one("e", "n", "a", "z", "new"), slices.Repeat([]api.Value{num(1)}, d.below(3))...))
		}
		want := slowJob(p.Rules, l)
		if want == api.OK {
			_, want = slowLevels(p)
		}
		wantCode(t, p, l, want)
		told[want]++
	}
	for _, code := range []api.Errno{api.OK, api.ErrTerm, api.ErrSafe, api.ErrValue, api.ErrArity, api.ErrNegCycle, api.ErrAggCycle, api.ErrMakeCycle} {
		if told[code] < 20 {
			t.Errorf("%d was told %d times alone", code, told[code])
		}
	}
}

// slowAnswers: DOC.md, 'Its answers', by holding each two columns against one another.
func slowAnswers(q api.Atom, m []api.Fact) [][]api.Value {
	var out [][]api.Value
	for _, f := range m {
		fits := term.CheckAtom(q) == api.OK && f.Pred == q.Pred && len(f.Args) == len(q.Args)
		for i := 0; fits && i < len(f.Args); i++ {
			fits = value.Check(f.Args[i]) == api.OK && (q.Args[i].Var != "" || q.Args[i].Val == f.Args[i])
			for j := range i {
				fits = fits && (q.Args[i].Var != q.Args[j].Var || q.Args[i].Var == "" || q.Args[i].Var == "_" || f.Args[i] == f.Args[j])
			}
		}
		if fits {
			out = append(out, f.Args)
		}
	}
	slices.SortFunc(out, value.CompareTuples)
	return slices.CompactFunc(out, func(a, b []api.Value) bool { return value.CompareTuples(a, b) == 0 })
}

// wildFacts are facts of few names, of any number of columns, of which some are none as they may be.
func (d *dice) wildFacts() []api.Fact {
	var out []api.Fact
	for range d.below(60) {
		f := api.Fact{Pred: d.one("p", "p", "q", "P")}
		for range d.below(4) {
			x := d.value()
			switch d.below(20) {
			case 0:
				x.Kind = api.Kind(d.below(5) - 1)
			case 1:
				x.Text += d.one("", "a")
			}
			f.Args = append(f.Args, x)
		}
		out = append(out, f)
	}
	return out
}

// P17.5, R1: any queries over any facts.
func TestAnswersOfAnything(t *testing.T) {
	d := dice(3)
	some, several := 0, 0
	for range 20000 {
		q, m := d.atom(api.Pred{Name: d.one("p", "p", "q", "P", "r"), Arity: d.below(4)}), d.wildFacts()
		if len(q.Args) > 0 && d.below(20) == 0 {
			q.Args[d.below(len(q.Args))] = api.Term{Var: d.one("", "x", "_", "X"), Val: api.Value{Kind: api.Kind(d.below(4))}}
		}
		want := slowAnswers(q, m)
		wantAnswers(t, q, m, showTuples(want))
		if some += min(len(want), 1); len(want) > 2 {
			several++
		}
	}
	if some < 5000 || several < 2000 {
		t.Errorf("%d queries had answers, %d several", some, several)
	}
}

// P17.4, R1: facts that are nearly a model, or just one, whatever stands among them.
func TestIsOfAnything(t *testing.T) {
	d := dice(4)
	told := map[bool]int{}
	for range 2500 {
		p, l := d.leveled(6), d.facts(8)
		all := mustModel(t, p, l)
		m := shuffled(&d, all)
		wantIs(t, p, l, m, true)
		switch d.below(5) {
		case 0:
			m = append(m, d.factOf(d.pred(ruled())))
		case 1:
			m = append(m, d.factOf(d.pred(given())))
		case 2:
			m = m[min(len(m), 1):]
		case 3:
			m = append(m, d.wildFacts()...)
		case 4:
			if i := slices.IndexFunc(m, func(f api.Fact) bool { return len(f.Args) > 0 }); i >= 0 {
				m = append(m, fact(m[i].Pred, slices.Clone(m[i].Args)...))
				m[len(m)-1].Args[0].Num += int64(d.below(2))
			}
		}
		want := !slices.ContainsFunc(m, func(f api.Fact) bool { return !isAmong(all, f) }) && !slices.ContainsFunc(all, func(f api.Fact) bool { return !isAmong(m, f) })
		wantIs(t, p, l, m, want)
		told[want]++
	}
	if told[true] < 300 || told[false] < 600 {
		t.Errorf("%v", told)
	}
}

// isAmong: does the fact stand in the list, its structs the same?
func isAmong(l []api.Fact, f api.Fact) bool {
	return slices.ContainsFunc(l, func(x api.Fact) bool { return x.Pred == f.Pred && slices.Equal(x.Args, f.Args) })
}

// R5: the same call twice.
func TestTwice(t *testing.T) {
	d := dice(5)
	for range 300 {
		p, l := d.leveled(9), d.facts(16)
		want := show(mustModel(t, p, l))
		for range 3 {
			wantModel(t, p, l, want)
		}
		some, _ := model.Upto(p, l, api.Level{N: 1})
		wantUpto(t, p, l, 1, show(some))
	}
}
