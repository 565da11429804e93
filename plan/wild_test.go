package plan_test

import (
	"slices"
	"testing"

	"pedigree/api"
	"pedigree/lex"
	"pedigree/plan"
	"pedigree/term"
)

// dice are numbers that look thrown and are the same in each run.
type dice uint64

func (d *dice) below(n int) int {
	*d = *d*6364136223846793005 + 1442695040888963407
	return int(uint64(*d>>33) % uint64(n))
}

func (d *dice) one(l ...string) string { return l[d.below(len(l))] }

func (d *dice) variable() string { return d.one("X", "Y", "Z", "W", "V") }

func (d *dice) term() api.Term {
	switch d.below(7) {
	case 0:
		return v("_")
	case 1:
		return n(int64(d.below(3)))
	}
	return v(d.variable())
}

func (d *dice) terms(most int) []api.Term {
	var out []api.Term
	for range d.below(most + 1) {
		out = append(out, d.term())
	}
	return out
}

func (d *dice) expr(deep int) api.Expr {
	switch k := d.below(8); {
	case k == 0 && deep > 0:
		return op(api.OpNeg, d.expr(deep-1))
	case k < 3 && deep > 0:
		return op(api.OpAdd, d.expr(deep-1), d.expr(deep-1))
	case k < 4:
		return ex(n(int64(k)))
	}
	return ex(v(d.variable()))
}

func (d *dice) literal() api.Literal {
	switch d.below(5) {
	case 0:
		return not(d.one("q", "r"), d.terms(2)...)
	case 1:
		return cmp(d.expr(2), api.Rel(1+d.below(6)), d.expr(2))
	case 2:
		return eq(d.expr(1), d.expr(2))
	}
	return pos(d.one("q", "r", "s"), d.terms(4)...)
}

func (d *dice) rule(most int) api.Rule {
	r := api.Rule{Pred: "p"}
	for range d.below(most + 1) {
		r.Body = append(r.Body, d.literal())
	}
	for range d.below(3) {
		r.Head = append(r.Head, api.Arg{Agg: api.AggNone, Term: v(d.variable())})
	}
	if d.below(6) == 0 {
		r.Head = append(r.Head, api.Arg{Agg: api.AggMax, Term: v(d.variable())})
	}
	return r
}

// unlike variables in any order, some of which stand in no rule.
func (d *dice) known() []string {
	out := []string{"X", "Y", "Z", "W", "V", "Q1", "Q2"}
	for i := range out {
		j := i + d.below(len(out)-i)
		out[i], out[j] = out[j], out[i]
	}
	return out[:min(d.below(len(out)+1), d.below(len(out)+1))]
}

// knownOrNot is now and then no list that may be.
func (d *dice) knownOrNot() []string {
	out := slices.Clone(d.known())
	switch d.below(12) {
	case 0:
		return append(out, d.one("x", "", "_", "X "))
	case 1:
		return append(out, d.variable())
	}
	return out
}

// broken is a rule with one thing in it that may not be, or may still.
func (d *dice) broken(r api.Rule) api.Rule {
	r.Body = slices.Clone(r.Body)
	if len(r.Body) == 0 || d.below(4) == 0 {
		r.Pred = d.one("p", "", "P", "not", "q_p")
		return r
	}
	l := &r.Body[d.below(len(r.Body))]
	switch d.below(5) {
	case 0:
		l.Kind = api.LitKind(d.below(6) - 1)
	case 1:
		l.Atom.Pred = d.one("q", "", "Q")
	case 2:
		l.Atom.Args = append(slices.Clone(l.Atom.Args), api.Term{Var: d.one("X", "", "_", "x")})
	case 3:
		l.Rel = api.Rel(d.below(9) - 1)
	default:
		l.Left = api.Expr{Op: api.Op(d.below(14) - 1), Term: v(d.one("X", "", "_"))}
	}
	return r
}

// What follows here is written along the chapter, word by word, with lists alone.

func allIn(some, all []string) bool {
	return !slices.ContainsFunc(some, func(name string) bool { return !slices.Contains(all, name) })
}

func notIn(some, all []string) []string {
	return slices.DeleteFunc(slices.Clone(some), func(name string) bool { return slices.Contains(all, name) })
}

func isLone(e api.Expr) bool { return e.Op == api.OpTerm && e.Term.Var != "" }

func slowLimited(r api.Rule, known []string) []string {
	out := slices.Clone(known)
	for _, l := range r.Body {
		if l.Kind == api.LPos {
			out = append(out, term.AtomVars(l.Atom)...)
		}
	}
	for range len(r.Body) {
		for _, l := range r.Body {
			if l.Kind != api.LCmp || l.Rel != api.RelEq {
				continue
			}
			if isLone(l.Left) && allIn(term.ExprVars(l.Right), out) {
				out = append(out, l.Left.Term.Var)
			}
			if isLone(l.Right) && allIn(term.ExprVars(l.Left), out) {
				out = append(out, l.Right.Term.Var)
			}
		}
	}
	return out
}

func slowCode(r api.Rule, known []string, first int) api.Errno {
	if term.CheckRule(r) != api.OK {
		return api.ErrTerm
	}
	for i, name := range known {
		if !lex.Variable(name) || slices.Contains(known[:i], name) {
			return api.ErrArg
		}
	}
	if !allIn(term.RuleVars(r), slowLimited(r, known)) {
		return api.ErrSafe
	}
	if first != -1 && (first < 0 || first >= len(r.Body) || r.Body[first].Kind != api.LPos) {
		return api.ErrPlan
	}
	return api.OK
}

// slowStep is the right step of a literal at a turn; StepNone, if it is not ready.
func slowStep(r api.Rule, i int, known []string) api.Step {
	l := r.Body[i]
	if l.Kind == api.LCmp {
		return slowCompare(l, i, known)
	}
	s := api.Step{Lit: i}
	columns := 0
	for c, t := range l.Atom.Args {
		if t.Var == "" || t.Var != "_" && slices.Contains(known, t.Var) {
			s.Known += api.Mask(1) << c
			columns++
		}
	}
	unknown := notIn(term.AtomVars(l.Atom), known)
	switch {
	case l.Kind == api.LNot && len(unknown) > 0:
		return api.Step{}
	case l.Kind == api.LNot:
		s.Kind = api.StepAbsent
	case columns == len(l.Atom.Args):
		s.Kind = api.StepHas
	case columns == 0:
		s.Kind, s.Gives = api.StepScan, unknown
	default:
		s.Kind, s.Gives = api.StepLook, unknown
	}
	return s
}

func slowCompare(l api.Literal, i int, known []string) api.Step {
	gives := func(lone, other api.Expr) bool {
		return l.Rel == api.RelEq && isLone(lone) && !slices.Contains(known, lone.Term.Var) && allIn(term.ExprVars(other), known)
	}
	switch {
	case allIn(term.LiteralVars(l), known):
		return api.Step{Kind: api.StepTest, Lit: i}
	case gives(l.Left, l.Right):
		return api.Step{Kind: api.StepSet, Lit: i, Gives: []string{l.Left.Term.Var}}
	case gives(l.Right, l.Left):
		return api.Step{Kind: api.StepSet, Lit: i, Gives: []string{l.Right.Term.Var}}
	}
	return api.Step{}
}

// slowNext is the number of the literal that Make takes at a turn.
func slowNext(t *testing.T, r api.Rule, taken []int, known []string) int {
	t.Helper()
	for i, l := range r.Body {
		if l.Kind != api.LPos && !slices.Contains(taken, i) && slowStep(r, i, known).Kind != api.StepNone {
			return i
		}
	}
	for i, l := range r.Body {
		if l.Kind == api.LPos && !slices.Contains(taken, i) {
			return i
		}
	}
	t.Fatalf("P12.3: %s with %v known: nothing can be taken behind %v", brief(r), known, taken)
	return 0
}

func slowMake(t *testing.T, r api.Rule, known []string, first int) ([]api.Step, api.Errno) {
	t.Helper()
	if code := slowCode(r, known, first); code != api.OK {
		return nil, code
	}
	var out []api.Step
	var taken []int
	known = slices.Clone(known)
	for range r.Body {
		i := first
		if len(taken) > 0 || first == -1 {
			i = slowNext(t, r, taken, known)
		}
		s := slowStep(r, i, known)
		out, taken, known = append(out, s), append(taken, i), append(known, s.Gives...)
	}
	return out, api.OK
}

func slowRight(p api.Plan, known []string) bool {
	if slowCode(p.Rule, known, -1) != api.OK || len(p.Steps) != len(p.Rule.Body) {
		return false
	}
	var taken []int
	known = slices.Clone(known)
	for _, s := range p.Steps {
		if s.Lit < 0 || s.Lit >= len(p.Rule.Body) || slices.Contains(taken, s.Lit) || s.Kind == api.StepNone {
			return false
		}
		if told(slowStep(p.Rule, s.Lit, known)) != told(s) {
			return false
		}
		taken, known = append(taken, s.Lit), append(known, s.Gives...)
	}
	return true
}

// P12.1 to P12.3, R1: any rule, known variables and first literal, against the slow one.
func TestMakeOfAnything(t *testing.T) {
	d := dice(12)
	codes := map[api.Errno]int{}
	for range 60000 {
		r, known := d.rule(7), d.knownOrNot()
		if d.below(8) == 0 {
			r = d.broken(r)
		}
		first := d.below(len(r.Body)+4) - 2
		want, code := slowMake(t, r, known, first)
		codes[code]++
		p, err := plan.Make(r, known, first)
		if err != code || show(p.Steps) != show(want) {
			t.Fatalf("Make(%s, %q, %d) = %s, %d; want %s, %d", brief(r), known, first, show(p.Steps), err, show(want), code)
		}
		if code == api.OK && told(p.Rule) != told(r) || code != api.OK && told(p) != told(api.Plan{}) {
			t.Fatalf("Make(%s, %q, %d) has the rule %s", brief(r), known, first, brief(p.Rule))
		}
	}
	for _, code := range []api.Errno{api.OK, api.ErrTerm, api.ErrArg, api.ErrSafe, api.ErrPlan} {
		if codes[code] < 1000 {
			t.Errorf("the error %d came %d times alone", code, codes[code])
		}
	}
}

// anyStep is a step that is right at the turn, or nearly, or anything.
func (d *dice) anyStep(r api.Rule, known []string) api.Step {
	var s api.Step
	if len(r.Body) > 0 {
		s = slowStep(r, d.below(len(r.Body)), known)
	}
	switch d.below(25) {
	case 0:
		s.Kind = api.StepKind(d.below(9) - 1)
	case 1:
		s.Lit = d.below(len(r.Body)+3) - 1
	case 2:
		s.Known ^= 1 << d.below(5)
	case 3:
		s.Gives = d.known()
	}
	return s
}

// anyPlan takes the literals in any order, each when it is ready, now and then otherwise.
func (d *dice) anyPlan(r api.Rule, known []string) api.Plan {
	p := api.Plan{Rule: r}
	known = slices.Clone(known)
	for tries := 0; tries < 60 && len(p.Steps) < len(r.Body); tries++ {
		s := d.anyStep(r, known)
		again := slices.ContainsFunc(p.Steps, func(o api.Step) bool { return o.Lit == s.Lit })
		if (again || s.Kind == api.StepNone) && d.below(40) > 0 {
			continue
		}
		p.Steps, known = append(p.Steps, s), append(known, s.Gives...)
	}
	return p
}

// P12.4, R1: any plan and known variables, against the slow one.
func TestRightOfAnything(t *testing.T) {
	d := dice(4)
	count := map[bool]int{}
	for range 60000 {
		r, known := d.rule(6), d.known()
		if d.below(20) == 0 {
			r = d.broken(r)
		}
		p := api.Plan{Rule: r}
		if term.CheckRule(r) == api.OK {
			p = d.anyPlan(r, known)
		}
		switch d.below(20) {
		case 0:
			known = d.knownOrNot()
		case 1:
			p.Steps = p.Steps[:d.below(len(p.Steps)+1)]
		}
		want := slowRight(p, known)
		count[want && len(p.Steps) > 2]++
		if got := plan.Right(p, known); got != want {
			t.Fatalf("Right(%s with %s, %q) = %v", brief(p.Rule), show(p.Steps), known, got)
		}
	}
	if count[true] < 2000 || count[false] < 2000 {
		t.Errorf("too few of one kind: %v", count)
	}
}
