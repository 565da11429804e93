package semi_test

import (
	"slices"
	"testing"

	"pedigree/api"
	"pedigree/naive"
	"pedigree/term"
	"pedigree/value"
)

// dice are numbers that look thrown and are the same in each run.
type dice uint64

func (d *dice) below(n int) int {
	*d = *d*6364136223846793005 + 1442695040888963407
	return int(uint64(*d) >> 33 % uint64(n))
}

func (d *dice) one(l ...string) string { return l[d.below(len(l))] }

// given are predicates that wild rules read alone, mostly; of ghost there are no facts.
func given() []api.Pred {
	return []api.Pred{{Name: "g"}, {Name: "n", Arity: 1}, {Name: "e", Arity: 2}, {Name: "e", Arity: 2}, {Name: "ghost", Arity: 1}}
}

// ruled are those that wild rules are for.
func ruled() []api.Pred {
	return []api.Pred{{Name: "a"}, {Name: "p", Arity: 1}, {Name: "q", Arity: 1}, {Name: "t", Arity: 2}, {Name: "t", Arity: 2}}
}

func (d *dice) pred(l []api.Pred) api.Pred { return l[d.below(len(l))] }

func (d *dice) value() api.Value {
	if d.below(5) == 0 {
		return text(d.one("", "a"))
	}
	return num(int64(d.below(4)))
}

// factOf is any fact of a predicate.
func (d *dice) factOf(p api.Pred) api.Fact {
	f := api.Fact{Pred: p.Name}
	for range p.Arity {
		f.Args = append(f.Args, d.value())
	}
	return f
}

// facts are mostly of predicates that are given.
func (d *dice) facts(most int) []api.Fact {
	var out []api.Fact
	for range d.below(most + 1) {
		if d.below(6) == 0 {
			out = append(out, d.factOf(d.pred(ruled())))
		} else {
			out = append(out, d.factOf(d.pred(given()[:4])))
		}
	}
	return out
}

func (d *dice) term() api.Term {
	switch d.below(10) {
	case 0:
		return api.Term{Val: d.value()}
	case 1:
		return v("_")
	}
	return v(d.one("X", "Y", "Z"))
}

func (d *dice) expr(deep int) api.Expr {
	if deep == 0 || d.below(2) == 0 {
		if d.below(4) == 0 {
			return ex(api.Term{Val: d.value()})
		}
		return ex(v(d.one("X", "Y", "Z", "W")))
	}
	switch o := api.OpNeg + api.Op(d.below(int(api.OpBack))); o {
	case api.OpNeg, api.OpLen, api.OpChars, api.OpBack:
		return op(o, d.expr(deep-1))
	default:
		return op(o, d.expr(deep-1), d.expr(deep-1))
	}
}

func (d *dice) atom(p api.Pred) api.Atom {
	a := api.Atom{Pred: p.Name}
	for range p.Arity {
		a.Args = append(a.Args, d.term())
	}
	return a
}

func (d *dice) literal() api.Literal {
	switch d.below(9) {
	case 0:
		return api.Literal{Kind: api.LNot, Atom: d.atom(d.pred(given()))}
	case 1:
		return api.Literal{Kind: api.LNot, Atom: d.atom(d.pred(slices.Concat(given(), ruled())))}
	case 2:
		return cmp(d.expr(1), api.RelEq+api.Rel(d.below(6)), d.expr(1))
	case 3, 4, 5:
		return api.Literal{Kind: api.LPos, Atom: d.atom(d.pred(ruled()))}
	}
	return api.Literal{Kind: api.LPos, Atom: d.atom(d.pred(given()[:d.below(3)+3]))}
}

// rule is one that may be used, without aggregates.
func (d *dice) rule() api.Rule {
	for {
		p := d.pred(ruled())
		if d.below(20) == 0 {
			p = d.pred(given())
		}
		r := api.Rule{Pred: p.Name}
		for range min(d.below(10), 3) {
			r.Body = append(r.Body, d.literal())
		}
		names := term.RuleVars(r)
		for range p.Arity {
			if len(names) > 0 && d.below(6) > 0 {
				r.Head = append(r.Head, api.Arg{Term: v(d.one(names...))})
			} else {
				r.Head = append(r.Head, api.Arg{Term: api.Term{Val: d.value()}})
			}
		}
		if isSafe(r) {
			return r
		}
	}
}

// linked is a rule by which facts come from others step by step.
func (d *dice) linked() api.Rule {
	walk := pos(d.one("e", "e", "t"), v("X"), v("Y"))
	if d.below(2) == 0 {
		return api.Rule{Pred: "t", Head: head(v("X"), v("Z")), Body: []api.Literal{walk, pos(d.one("e", "t"), v("Y"), v("Z"))}}
	}
	return api.Rule{Pred: d.one("p", "q"), Head: head(v("Y")), Body: []api.Literal{pos(d.one("n", "p", "q"), v("X")), walk}}
}

func (d *dice) rules(most int) []api.Rule {
	var out []api.Rule
	for range d.below(most + 1) {
		if d.below(3) == 0 {
			out = append(out, d.linked())
		} else {
			out = append(out, d.rule())
		}
	}
	return out
}

// flat are rules of one level.
func (d *dice) flat(most int) []api.Rule {
	for {
		if rules := d.rules(most); isFlat(rules) {
			return rules
		}
	}
}

// isSafe: DOC.md, 'Limited'.
func isSafe(r api.Rule) bool {
	var limited []string
	for _, lit := range r.Body {
		if lit.Kind == api.LPos {
			limited = append(limited, term.AtomVars(lit.Atom)...)
		}
	}
	for range r.Body {
		for _, lit := range r.Body {
			if lit.Kind != api.LCmp || lit.Rel != api.RelEq {
				continue
			}
			for _, side := range [][2]api.Expr{{lit.Left, lit.Right}, {lit.Right, lit.Left}} {
				if side[0].Term.Var != "" && areAmong(term.ExprVars(side[1]), limited) {
					limited = append(limited, side[0].Term.Var)
				}
			}
		}
	}
	return areAmong(term.RuleVars(r), limited)
}

func areAmong(some, all []string) bool {
	return !slices.ContainsFunc(some, func(name string) bool { return !slices.Contains(all, name) })
}

func makes(r api.Rule) bool {
	operation, made := false, false
	var atoms []string
	for _, lit := range r.Body {
		if lit.Kind == api.LPos {
			atoms = append(atoms, term.AtomVars(lit.Atom)...)
		}
		operation = operation || len(lit.Left.Kids)+len(lit.Right.Kids) > 0
	}
	for _, a := range r.Head {
		made = made || a.Term.Var != "" && !slices.Contains(atoms, a.Term.Var)
	}
	return operation && made
}

// isFlat: DOC.md, 'Rules are of one level'; none here has an aggregate.
func isFlat(rules []api.Rule) bool {
	for _, r := range rules {
		for _, lit := range r.Body {
			isRuled := slices.ContainsFunc(rules, func(x api.Rule) bool { return x.Pred == lit.Atom.Pred })
			if isRuled && (lit.Kind == api.LNot || makes(r)) {
				return false
			}
		}
	}
	return true
}

// replaced is an atom whose variables are their values.
func replaced(a api.Atom, l []api.Bind) api.Atom {
	var pairs []api.Pair
	for _, b := range l {
		pairs = append(pairs, api.Pair{Var: b.Var, Term: api.Term{Val: b.Val}})
	}
	return term.Apply(pairs, a)
}

// holds: does a comparison or a not hold over the facts, by DOC.md's words? (The binds assign all its variables.)
func holds(lit api.Literal, l []api.Fact, binds []api.Bind) bool {
	if lit.Kind == api.LCmp {
		a, ok := term.Eval(lit.Left, binds)
		b, too := term.Eval(lit.Right, binds)
		return ok && too && value.Holds(lit.Rel, a, b)
	}
	a := replaced(lit.Atom, binds)
	return slices.ContainsFunc(l, func(f api.Fact) bool {
		_, ok := term.Match(a, f)
		return ok
	}) == (lit.Kind == api.LPos)
}

func isAssigned(binds []api.Bind, name string) bool {
	return slices.ContainsFunc(binds, func(b api.Bind) bool { return b.Var == name })
}

// equated adds what the equations of a body give, over and over.
func equated(body []api.Literal, binds []api.Bind) []api.Bind {
	for range body {
		for _, lit := range body {
			for _, side := range [][2]api.Expr{{lit.Left, lit.Right}, {lit.Right, lit.Left}} {
				name := side[0].Term.Var
				if lit.Kind != api.LCmp || lit.Rel != api.RelEq || name == "" || isAssigned(binds, name) {
					continue
				}
				if val, ok := term.Eval(side[1], binds); ok {
					binds = append(binds, api.Bind{Var: name, Val: val})
				}
			}
		}
	}
	return binds
}

// slowJoins goes through all facts for each LPos, one within the other, and tells what each join gives; each fact stands once.
func slowJoins(r api.Rule, l []api.Fact) []api.Fact {
	var out []api.Fact
	var choose func(left []api.Literal, binds []api.Bind)
	choose = func(left []api.Literal, binds []api.Bind) {
		if len(left) == 0 {
			binds = equated(r.Body, binds)
			if slices.ContainsFunc(r.Body, func(lit api.Literal) bool { return !holds(lit, l, binds) }) {
				return
			}
			f := api.Fact{Pred: r.Pred}
			for _, a := range r.Head {
				f.Args = append(f.Args, replaced(api.Atom{Args: []api.Term{a.Term}}, binds).Args[0].Val)
			}
			out = append(out, f)
			return
		}
		if left[0].Kind != api.LPos {
			choose(left[1:], binds)
			return
		}
		a := replaced(left[0].Atom, binds)
		for _, f := range l {
			if more, ok := term.Match(a, f); ok {
				choose(left[1:], append(slices.Clone(binds), more...))
			}
		}
	}
	choose(r.Body, nil)
	return out
}

// slowRun does the chapter's words: all rules over all facts, over and over; the joins are those over what is there at last.
func slowRun(rules []api.Rule, l []api.Fact) ([]api.Fact, api.Stats) {
	all := value.Facts(l)
	out := api.Stats{}
	for {
		out.Rounds++
		out.Joins = 0
		next := slices.Clone(all)
		for _, r := range rules {
			given := slowJoins(r, all)
			out.Joins += len(given)
			next = append(next, given...)
		}
		next = value.Facts(next)
		if len(next) == len(all) {
			return all, out
		}
		out.New = append(out.New, len(next)-len(all))
		all = next
	}
}

// P15.1 to P15.3: any rules over any facts, or ErrLevel.
func TestRunOfAnything(t *testing.T) {
	d := dice(1)
	refused, deep, most := 0, 0, 0
	for range 6000 {
		rules, l := d.rules(7), d.facts(20)
		if !isFlat(rules) {
			wantCode(t, rules, l, api.ErrLevel)
			refused++
			continue
		}
		want, s := slowRun(rules, l)
		wantRun(t, rules, l, show(want), stats(s))
		if s.Rounds > 3 {
			deep++
		}
		most = max(most, s.Rounds)
	}
	if refused < 600 || deep < 200 || most < 5 {
		t.Errorf("%d were refused, %d had more than 3 rounds, %d was the most", refused, deep, most)
	}
}

// twined is a rule whose body asks, in any order, several times for predicates that grow.
func (d *dice) twined() api.Rule {
	for {
		r := api.Rule{Pred: "t", Head: head(v(d.one("X", "Y", "Z")), v(d.one("X", "Y", "Z")))}
		for range 2 + d.below(3) {
			switch d.below(8) {
			case 0:
				r.Body = append(r.Body, pos(d.one("p", "n"), d.term()))
			case 1:
				r.Body = append(r.Body, pos("e", d.term(), d.term()))
			default:
				r.Body = append(r.Body, pos("t", d.term(), d.term()))
			}
		}
		if d.below(4) == 0 {
			r.Body = slices.Insert(r.Body, d.below(len(r.Body)), cmp(d.expr(0), api.RelEq+api.Rel(d.below(6)), d.expr(0)))
		}
		if isSafe(r) {
			return r
		}
	}
}

// P15.2, P15.3, P0.3: bodies that ask for what grows more than once: each join counts just once.
func TestTwinedRules(t *testing.T) {
	d := dice(2)
	grown, most := 0, 0
	for range 4000 {
		rules := []api.Rule{d.twined(), d.linked()}
		if d.below(2) == 0 {
			rules = append(rules, d.twined())
		}
		l := d.facts(3)
		for range 2 + d.below(6) {
			l = append(l, nums(d.one("e", "t", "t"), int64(d.below(3)), int64(d.below(3))))
		}
		want, s := slowRun(rules, l)
		wantRun(t, rules, l, show(want), stats(s))
		if s.Rounds > 2 && s.Joins > len(want) {
			grown++
		}
		most = max(most, s.Joins)
	}
	if grown < 200 || most < 500 {
		t.Errorf("%d alone had more joins than facts in several rounds, %d joins was the most", grown, most)
	}
}

// P15.2, P15.3: the facts and their ranks are those of naive.Ranks, for New and for Rounds.
func TestRanks(t *testing.T) {
	d := dice(3)
	for range 2000 {
		rules, l := d.flat(7), d.facts(20)
		ranked, err := naive.Ranks(rules, l)
		if err != api.OK {
			t.Fatalf("Ranks(%s, %s): %d", brief(rules), brief(show(l)), err)
		}
		var all []api.Fact
		want := api.Stats{Rounds: 1}
		for _, r := range ranked {
			all = append(all, r.Fact)
			for len(want.New) < r.Rank {
				want.New = append(want.New, 0)
			}
			if r.Rank > 0 {
				want.New[r.Rank-1]++
			}
			want.Rounds = max(want.Rounds, r.Rank+1)
		}
		for _, r := range rules {
			want.Joins += len(slowJoins(r, all))
		}
		wantRun(t, rules, l, show(all), stats(want))
	}
}

// broken turns one thing of a rule, so that it mostly is none as it may be, or may not be used.
func (d *dice) broken(r api.Rule) api.Rule {
	switch d.below(6) {
	case 0:
		r.Pred = d.one("", "P", "not", "p", "e", "_")
	case 1:
		r.Head = append(slices.Clone(r.Head), api.Arg{Agg: api.Agg(d.below(7) - 1), Term: d.term()})
	case 2:
		r.Body = append(slices.Clone(r.Body), api.Literal{Kind: api.LitKind(d.below(6) - 1), Atom: d.atom(d.pred(given()))})
	case 3:
		r.Body = append(slices.Clone(r.Body), api.Literal{Kind: api.LNot, Atom: api.Atom{Pred: d.one("e", "n", "p", "new", "E"), Args: []api.Term{v(d.one("X", "U", "_", "u"))}}})
	case 4:
		r.Body = append(slices.Clone(r.Body), cmp(d.expr(1), api.Rel(d.below(9)-1), api.Expr{Op: api.Op(d.below(13) - 1), Kids: []api.Expr{d.expr(1)}}))
	case 5:
		r.Head = append(slices.Clone(r.Head), api.Arg{Agg: api.AggCount})
	}
	return r
}

// slowJob says the first error of Job, by P7.6's words.
func slowJob(rules []api.Rule, l []api.Fact) api.Errno {
	columns := map[string]int{}
	clash := false
	note := func(name string, n int) {
		before, ok := columns[name]
		clash = clash || ok && before != n
		columns[name] = n
	}
	for _, r := range rules {
		if term.CheckRule(r) != api.OK {
			return api.ErrTerm
		}
		if !isSafe(r) {
			return api.ErrSafe
		}
		note(r.Pred, len(r.Head))
		for _, lit := range r.Body {
			if lit.Kind != api.LCmp {
				note(lit.Atom.Pred, len(lit.Atom.Args))
			}
		}
	}
	for _, f := range l {
		if f.Pred == "E" || slices.ContainsFunc(f.Args, func(v api.Value) bool { return value.Check(v) != api.OK }) {
			return api.ErrValue
		}
		note(f.Pred, len(f.Args))
	}
	if clash {
		return api.ErrArity
	}
	return api.OK
}

// P15.1, R1: rules and facts of which some are none.
func TestWhatMayNotBe(t *testing.T) {
	d := dice(4)
	told := map[api.Errno]int{}
	for range 8000 {
		rules, l := d.rules(4), d.facts(6)
		for i, r := range rules {
			if d.below(8) == 0 {
				rules[i] = d.broken(r)
			}
		}
		switch d.below(12) {
		case 0:
			l = append(l, fact("E"), d.factOf(given()[2]))
		case 1:
			l = append(l, fact("e", num(1), api.Value{Kind: 3}))
		case 2:
			l = append(l, wide(d.one("e", "n", "p", "a", "z"), d.below(3)))
		}
		want := slowJob(rules, l)
		if want == api.OK && (slices.ContainsFunc(rules, hasAggregate) || !isFlat(rules)) {
			want = api.ErrLevel
		}
		wantCode(t, rules, l, want)
		told[want]++
	}
	for _, code := range []api.Errno{api.OK, api.ErrTerm, api.ErrSafe, api.ErrValue, api.ErrArity, api.ErrLevel} {
		if told[code] < 150 {
			t.Errorf("%d was told %d times alone", code, told[code])
		}
	}
}

func hasAggregate(r api.Rule) bool {
	return slices.ContainsFunc(r.Head, func(a api.Arg) bool { return a.Agg != api.AggNone })
}
