package par_test

import (
	"slices"

	"pedigree/api"
	"pedigree/term"
	"pedigree/value"
)

// isSafe: DOC.md, 'Limited'.
func isSafe(r api.Rule) bool {
	var limited []string
	for _, lit := range r.Body {
		if lit.Kind == api.LPos {
			limited = append(limited, term.AtomVars(lit.Atom)...)
		}
	}
	for range r.Body {
		for _, lit := range r.Body {
			if lit.Kind != api.LCmp || lit.Rel != api.RelEq {
				continue
			}
			for _, side := range [][2]api.Expr{{lit.Left, lit.Right}, {lit.Right, lit.Left}} {
				if side[0].Term.Var != "" && areAmong(term.ExprVars(side[1]), limited) {
					limited = append(limited, side[0].Term.Var)
				}
			}
		}
	}
	return areAmong(term.RuleVars(r), limited)
}

func areAmong(some, all []string) bool {
	return !slices.ContainsFunc(some, func(name string) bool { return !slices.Contains(all, name) })
}

func hasAggregate(r api.Rule) bool {
	return slices.ContainsFunc(r.Head, func(a api.Arg) bool { return a.Agg != api.AggNone })
}

// makesValues: DOC.md, 'A rule makes values'.
func makesValues(r api.Rule) bool {
	operation, made := false, false
	var atoms []string
	for _, lit := range r.Body {
		if lit.Kind == api.LPos {
			atoms = append(atoms, term.AtomVars(lit.Atom)...)
		}
		operation = operation || len(lit.Left.Kids)+len(lit.Right.Kids) > 0
	}
	for _, a := range r.Head {
		made = made || a.Term.Var != "" && !slices.Contains(atoms, a.Term.Var)
	}
	return operation && made
}

// isFlat: DOC.md, 'Rules are of one level'.
func isFlat(rules []api.Rule) bool {
	for _, r := range rules {
		if hasAggregate(r) {
			return false
		}
		for _, lit := range r.Body {
			isRuled := lit.Kind != api.LCmp && slices.ContainsFunc(rules, func(x api.Rule) bool { return x.Pred == lit.Atom.Pred })
			if isRuled && (lit.Kind == api.LNot || makesValues(r)) {
				return false
			}
		}
	}
	return true
}

// look is a rule's look at a predicate: the error that it comes to, if it is strict and lies in a cycle; OK: it is not strict.
type look struct {
	from, to string
	strict   api.Errno
}

func looksOf(rules []api.Rule) []look {
	var out []look
	for _, r := range rules {
		for _, lit := range r.Body {
			switch {
			case lit.Kind == api.LNot:
				out = append(out, look{r.Pred, lit.Atom.Pred, api.ErrNegCycle})
			case lit.Kind == api.LPos && hasAggregate(r):
				out = append(out, look{r.Pred, lit.Atom.Pred, api.ErrAggCycle})
			case lit.Kind == api.LPos && makesValues(r):
				out = append(out, look{r.Pred, lit.Atom.Pred, api.ErrMakeCycle})
			case lit.Kind == api.LPos:
				out = append(out, look{r.Pred, lit.Atom.Pred, api.OK})
			}
		}
	}
	return out
}

// comesTo: does a way along the looks lead from one predicate to another?
func comesTo(l []look, from, to string) bool {
	found := []string{from}
	for i := 0; i < len(found); i++ {
		for _, x := range l {
			if x.from == found[i] && !slices.Contains(found, x.to) {
				found = append(found, x.to)
			}
		}
	}
	return slices.Contains(found, to)
}

// slowLevels: DOC.md, 'Levels'; or the error of the first strict look that lies in a cycle.
func slowLevels(rules []api.Rule) (map[string]int, api.Errno) {
	l := looksOf(rules)
	for _, x := range l {
		if x.strict != api.OK && comesTo(l, x.to, x.from) {
			return nil, x.strict
		}
	}
	out := map[string]int{}
	for raised := true; raised; {
		raised = false
		for _, x := range l {
			least := out[x.to]
			if x.strict != api.OK {
				least++
			}
			if out[x.from] < least {
				out[x.from], raised = least, true
			}
		}
	}
	return out, api.OK
}

// slowJob says the first error of Job, by P7.6's words.
func slowJob(rules []api.Rule, l []api.Fact) api.Errno {
	columns := map[string]int{}
	clash := false
	note := func(name string, n int) {
		before, ok := columns[name]
		clash = clash || ok && before != n
		columns[name] = n
	}
	for _, r := range rules {
		if term.CheckRule(r) != api.OK {
			return api.ErrTerm
		}
		if !isSafe(r) {
			return api.ErrSafe
		}
		note(r.Pred, len(r.Head))
		for _, lit := range r.Body {
			if lit.Kind != api.LCmp {
				note(lit.Atom.Pred, len(lit.Atom.Args))
			}
		}
	}
	for _, f := range l {
		if f.Pred == "E" || slices.ContainsFunc(f.Args, func(v api.Value) bool { return value.Check(v) != api.OK }) {
			return api.ErrValue
		}
		note(f.Pred, len(f.Args))
	}
	if clash {
		return api.ErrArity
	}
	return api.OK
}

// slowRefuseRun: P26.3, and slowRefuseModel: P26.5.
func slowRefuseRun(rules []api.Rule, l []api.Fact, workers int) api.Errno {
	if err := slowJob(rules, l); err != api.OK {
		return err
	}
	if !isFlat(rules) {
		return api.ErrLevel
	}
	return slowWorkers(workers)
}

func slowRefuseModel(rules []api.Rule, l []api.Fact, workers int) api.Errno {
	if err := slowJob(rules, l); err != api.OK {
		return err
	}
	if _, err := slowLevels(rules); err != api.OK {
		return err
	}
	return slowWorkers(workers)
}

func slowWorkers(n int) api.Errno {
	if n < 1 || n > 16 {
		return api.ErrArg
	}
	return api.OK
}

// replaced is an atom whose variables are their values.
func replaced(a api.Atom, l []api.Bind) api.Atom {
	var pairs []api.Pair
	for _, b := range l {
		pairs = append(pairs, api.Pair{Var: b.Var, Term: api.Term{Val: b.Val}})
	}
	return term.Apply(pairs, a)
}

// holds: does a literal hold over the facts, by DOC.md's words? (The binds assign all its variables.)
func holds(lit api.Literal, l []api.Fact, binds []api.Bind) bool {
	if lit.Kind == api.LCmp {
		a, ok := term.Eval(lit.Left, binds)
		b, too := term.Eval(lit.Right, binds)
		return ok && too && value.Holds(lit.Rel, a, b)
	}
	a := replaced(lit.Atom, binds)
	return slices.ContainsFunc(l, func(f api.Fact) bool {
		_, ok := term.Match(a, f)
		return ok
	}) == (lit.Kind == api.LPos)
}

func isAssigned(binds []api.Bind, name string) bool {
	return slices.ContainsFunc(binds, func(b api.Bind) bool { return b.Var == name })
}

// equated adds what the equations of a body give, over and over.
func equated(body []api.Literal, binds []api.Bind) []api.Bind {
	for range body {
		for _, lit := range body {
			for _, side := range [][2]api.Expr{{lit.Left, lit.Right}, {lit.Right, lit.Left}} {
				name := side[0].Term.Var
				if lit.Kind != api.LCmp || lit.Rel != api.RelEq || name == "" || isAssigned(binds, name) {
					continue
				}
				if val, ok := term.Eval(side[1], binds); ok {
					binds = append(binds, api.Bind{Var: name, Val: val})
				}
			}
		}
	}
	return binds
}

// slowJoins goes through all facts for each LPos, one within the other, and answers the binds of each join; each fact stands once.
func slowJoins(body []api.Literal, l []api.Fact) [][]api.Bind {
	var out [][]api.Bind
	var choose func(left []api.Literal, binds []api.Bind)
	choose = func(left []api.Literal, binds []api.Bind) {
		if len(left) == 0 {
			binds = equated(body, binds)
			if !slices.ContainsFunc(body, func(lit api.Literal) bool { return !holds(lit, l, binds) }) {
				out = append(out, binds)
			}
			return
		}
		if left[0].Kind != api.LPos {
			choose(left[1:], binds)
			return
		}
		a := replaced(left[0].Atom, binds)
		for _, f := range l {
			if more, ok := term.Match(a, f); ok {
				choose(left[1:], append(slices.Clone(binds), more...))
			}
		}
	}
	choose(body, nil)
	return out
}

// valueOf is a variable's value under a solution.
func valueOf(binds []api.Bind, name string) api.Value {
	return binds[slices.IndexFunc(binds, func(b api.Bind) bool { return b.Var == name })].Val
}

// plainValues are the values of a head's plain arguments under a solution.
func plainValues(r api.Rule, binds []api.Bind) []api.Value {
	var out []api.Value
	for _, a := range r.Head {
		switch {
		case a.Agg != api.AggNone:
		case a.Term.Var == "":
			out = append(out, a.Term.Val)
		default:
			out = append(out, valueOf(binds, a.Term.Var))
		}
	}
	return out
}

// slowGives is what a rule without aggregates gives, join by join.
func slowGives(r api.Rule, l []api.Fact) []api.Fact {
	var out []api.Fact
	for _, binds := range slowJoins(r.Body, l) {
		out = append(out, api.Fact{Pred: r.Pred, Args: plainValues(r, binds)})
	}
	return out
}

func isSame(a, b []api.Bind) bool {
	return !slices.ContainsFunc(a, func(x api.Bind) bool { return valueOf(b, x.Var) != x.Val })
}

// slowGroups puts solutions together, each once, by going through the groups that there are.
func slowGroups(r api.Rule, l []api.Fact) [][][]api.Bind {
	var out [][][]api.Bind
	for _, binds := range slowJoins(r.Body, l) {
		i := slices.IndexFunc(out, func(g [][]api.Bind) bool { return slices.Equal(plainValues(r, g[0]), plainValues(r, binds)) })
		switch {
		case i < 0:
			out = append(out, [][]api.Bind{binds})
		case !slices.ContainsFunc(out[i], func(x []api.Bind) bool { return isSame(x, binds) }):
			out[i] = append(out[i], binds)
		}
	}
	return out
}

// slowAggregate is what an aggregate comes to over a group; false: nothing. (Chapter 16)
func slowAggregate(a api.Arg, solutions [][]api.Bind) (api.Value, bool) {
	if a.Agg == api.AggCount {
		return num(int64(len(solutions))), true
	}
	var all []api.Value
	for _, binds := range solutions {
		all = append(all, valueOf(binds, a.Term.Var))
	}
	switch a.Agg {
	case api.AggMin:
		return slices.MinFunc(all, value.Compare), true
	case api.AggMax:
		return slices.MaxFunc(all, value.Compare), true
	}
	total := num(0)
	for _, v := range all {
		if v.Kind != api.KNum {
			return api.Value{}, false
		}
		total.Num += v.Num
	}
	return total, true
}

// slowAggregates is what a rule with aggregates gives.
func slowAggregates(r api.Rule, l []api.Fact) []api.Fact {
	var out []api.Fact
	for _, solutions := range slowGroups(r, l) {
		f := api.Fact{Pred: r.Pred}
		plain := plainValues(r, solutions[0])
		for _, a := range r.Head {
			if a.Agg == api.AggNone {
				f.Args, plain = append(f.Args, plain[0]), plain[1:]
			} else if v, ok := slowAggregate(a, solutions); ok {
				f.Args = append(f.Args, v)
			}
		}
		if len(f.Args) == len(r.Head) {
			out = append(out, f)
		}
	}
	return out
}

// slowRun does chapter 15's words: all rules over all facts, over and over; the joins are those over what is there at last.
func slowRun(rules []api.Rule, l []api.Fact) ([]api.Fact, api.Stats) {
	all := value.Facts(l)
	out := api.Stats{}
	for {
		out.Rounds++
		out.Joins = 0
		next := slices.Clone(all)
		for _, r := range rules {
			given := slowGives(r, all)
			out.Joins += len(given)
			next = append(next, given...)
		}
		next = value.Facts(next)
		if len(next) == len(all) {
			return all, out
		}
		out.New = append(out.New, len(next)-len(all))
		all = next
	}
}

// slowModel does P26.4's words: the model, and how many rounds its levels have in all.
func slowModel(rules []api.Rule, l []api.Fact, levels map[string]int) ([]api.Fact, int) {
	all, rounds := value.Facts(l), 0
	for n := range len(levels) + 1 {
		next := slices.Clone(all)
		var others []api.Rule
		some := false
		for _, r := range rules {
			switch {
			case levels[r.Pred] != n:
				continue
			case hasAggregate(r):
				next = append(next, slowAggregates(r, all)...)
			default:
				others = append(others, r)
			}
			some = true
		}
		if some {
			var s api.Stats
			all, s = slowRun(others, next)
			rounds += s.Rounds
		}
	}
	return all, rounds
}

// slowStop is chapter 26's words of a stop: the rounds that it lets be (below 0: any number), and whether it has been stopped.
type slowStop struct {
	rounds  int
	stopped bool
}

// draw asks for so many rounds, one behind the other, till it says no.
func (s *slowStop) draw(rounds int) api.Errno {
	for range rounds {
		if s.stopped || s.rounds == 0 {
			s.stopped = true
			return api.ErrStopped
		}
		if s.rounds > 0 {
			s.rounds--
		}
	}
	return api.OK
}
