package par_test

import (
	"slices"
	"testing"

	"pedigree/api"
	"pedigree/par"
	"pedigree/term"
)

// dice are numbers that look thrown and are the same in each run.
type dice uint64

func (d *dice) below(n int) int {
	*d = *d*6364136223846793005 + 1442695040888963407
	return int(uint64(*d) >> 33 % uint64(n))
}

func (d *dice) one(l ...string) string { return l[d.below(len(l))] }

func (d *dice) pred(l []api.Pred) api.Pred { return l[d.below(len(l))] }

func (d *dice) crew() int { return 1 + d.below(api.MaxWorkers) }

// given are the predicates of wild facts and bodies that mostly have no rules; of ghost there are no facts.
func given() []api.Pred {
	return []api.Pred{{Name: "e", Arity: 2}, {Name: "e", Arity: 2}, {Name: "n", Arity: 1}, {Name: "g"}, {Name: "ghost", Arity: 1}}
}

// ruled are those of wild rules, which mostly look strictly at those ahead of them alone.
func ruled() []api.Pred {
	return []api.Pred{{Name: "t", Arity: 2}, {Name: "a", Arity: 1}, {Name: "b", Arity: 1}, {Name: "u", Arity: 2}, {Name: "c", Arity: 1}, {Name: "z"}, {Name: "q_w", Arity: 2}}
}

func (d *dice) value() api.Value {
	if d.below(12) == 0 {
		return text(d.one("", "a", "1", "ab"))
	}
	return num(int64(d.below(5) - 1))
}

// factOf is any fact of a predicate.
func (d *dice) factOf(p api.Pred) api.Fact {
	f := api.Fact{Pred: p.Name}
	for range p.Arity {
		f.Args = append(f.Args, d.value())
	}
	return f
}

func (d *dice) facts(most int) []api.Fact {
	var out []api.Fact
	for range d.below(most + 1) {
		if d.below(5) == 0 {
			out = append(out, d.factOf(d.pred(ruled())))
		} else {
			out = append(out, d.factOf(d.pred(given()[:4])))
		}
	}
	return out
}

func (d *dice) term() api.Term {
	switch d.below(10) {
	case 0:
		return api.Term{Val: d.value()}
	case 1:
		return v("_")
	}
	return v(d.one("X", "Y", "Z"))
}

func (d *dice) expr(deep int) api.Expr {
	if deep == 0 || d.below(2) == 0 {
		if d.below(4) == 0 {
			return ex(api.Term{Val: d.value()})
		}
		return ex(v(d.one("X", "Y", "Z", "W")))
	}
	switch o := api.OpNeg + api.Op(d.below(int(api.OpBack))); o {
	case api.OpNeg, api.OpLen, api.OpChars, api.OpBack:
		return op(o, d.expr(deep-1))
	default:
		return op(o, d.expr(deep-1), d.expr(deep-1))
	}
}

func (d *dice) atom(p api.Pred) api.Atom {
	a := api.Atom{Pred: p.Name}
	for range p.Arity {
		a.Args = append(a.Args, d.term())
	}
	return a
}

// seen is a predicate at which a rule for the i-th ruled one looks; strictly: mostly one ahead of it.
func (d *dice) seen(i int, strictly bool) api.Pred {
	switch {
	case i == 0 || d.below(3) == 0:
		return d.pred(given())
	case d.below(25) == 0:
		return d.pred(ruled())
	case strictly:
		return d.pred(ruled()[max(0, i-2):i])
	}
	return d.pred(ruled()[max(0, i-2) : i+1])
}

// body is one that limits all its variables.
func (d *dice) body(i int, strictly bool) []api.Literal {
	for {
		var out []api.Literal
		for range 1 + min(d.below(10), 2) {
			switch d.below(9) {
			case 0, 1:
				out = append(out, api.Literal{Kind: api.LNot, Atom: d.atom(d.seen(i, d.below(10) > 0))})
			case 2:
				out = append(out, cmp(d.expr(1), api.RelEq+api.Rel(d.below(6)), d.expr(1)))
			case 3:
				out = append(out, cmp(ex(v(d.one("Z", "W"))), api.RelEq, d.expr(2)))
			default:
				out = append(out, api.Literal{Kind: api.LPos, Atom: d.atom(d.seen(i, strictly))})
			}
		}
		if isSafe(api.Rule{Body: out}) {
			return out
		}
	}
}

func (d *dice) arg(names []string, aggregates bool) api.Arg {
	if aggregates && d.below(2) == 0 {
		if len(names) == 0 || d.below(2) == 0 {
			return count()
		}
		return api.Arg{Agg: api.AggSum + api.Agg(d.below(3)), Term: v(d.one(names...))}
	}
	if len(names) == 0 || d.below(6) == 0 {
		return api.Arg{Term: api.Term{Val: d.value()}}
	}
	return api.Arg{Term: v(d.one(names...))}
}

// rule is one that may be used, for the i-th ruled predicate.
func (d *dice) rule(i int) api.Rule {
	p := ruled()[i]
	aggregates := d.below(4) == 0
	r := api.Rule{Pred: p.Name, Body: d.body(i, d.below(8) > 0 && (aggregates || d.below(3) > 0))}
	if d.below(12) == 0 {
		r.Body = nil
	}
	names := term.RuleVars(r)
	for range p.Arity {
		r.Head = append(r.Head, d.arg(names, aggregates))
	}
	return r
}

// linked is a rule by which facts come from others step by step.
func (d *dice) linked() api.Rule {
	name := d.one("t", "t", "u")
	return api.Rule{Pred: name, Head: head(v("X"), v("Z")), Body: []api.Literal{pos(d.one("e", name), v("X"), v("Y")), pos(d.one("e", name), v("Y"), v("Z"))}}
}

// made is a rule that makes values, mostly of those of a predicate ahead.
func (d *dice) made() api.Rule {
	names := []string{"n", "a", "b", "c"}
	i := 1 + d.below(3)
	from := d.one(names[:i]...)
	if d.below(3) == 0 {
		from = d.one(names...)
	}
	return api.Rule{Pred: names[i], Head: head(v("Y")), Body: []api.Literal{pos(from, v("X")), cmp(ex(v("Y")), api.RelEq, op(api.OpAdd, ex(v("X")), d.expr(0)))}}
}

func (d *dice) rules(most int) []api.Rule {
	var out []api.Rule
	first := d.below(len(ruled()))
	for i := range d.below(most + 1) {
		switch r := d.made(); {
		case d.below(5) == 0:
			out = append(out, d.linked())
		case d.below(8) == 0 && isSafe(r):
			out = append(out, r)
		default:
			out = append(out, d.rule((first+i)%len(ruled())))
		}
	}
	return out
}

// leveled are rules that have levels.
func (d *dice) leveled(most int) []api.Rule {
	for {
		rules := d.rules(most)
		if _, err := slowLevels(rules); err == api.OK {
			return rules
		}
	}
}

// twined is a rule whose body asks, in any order, several times for predicates that grow.
func (d *dice) twined() api.Rule {
	for {
		r := api.Rule{Pred: "t", Head: head(v(d.one("X", "Y", "Z")), v(d.one("X", "Y", "Z")))}
		for range 1 + d.below(3) {
			switch d.below(8) {
			case 0:
				r.Body = append(r.Body, pos(d.one("a", "n"), d.term()))
			case 1, 2:
				r.Body = append(r.Body, pos("e", d.term(), d.term()))
			default:
				r.Body = append(r.Body, pos("t", d.term(), d.term()))
			}
		}
		switch d.below(8) {
		case 0, 1:
			r.Body = slices.Insert(r.Body, d.below(len(r.Body)), cmp(d.expr(0), api.RelEq+api.Rel(d.below(6)), d.expr(0)))
		case 2:
			r.Body = slices.Insert(r.Body, d.below(len(r.Body)), api.Literal{Kind: api.LNot, Atom: d.atom(d.pred(given()))})
		}
		if isSafe(r) {
			return r
		}
	}
}

// flat are rules of one level.
func (d *dice) flat(most int) []api.Rule {
	for {
		var out []api.Rule
		for range d.below(most + 1) {
			switch d.below(4) {
			case 0:
				out = append(out, d.rule(d.below(len(ruled()))))
			case 1:
				out = append(out, d.linked())
			default:
				out = append(out, d.twined())
			}
		}
		if isFlat(out) {
			return out
		}
	}
}

// pairs are facts of e and t, and some others.
func (d *dice) pairs() []api.Fact {
	out := d.facts(4)
	for range 2 + d.below(6) {
		out = append(out, nums(d.one("e", "e", "t"), int64(d.below(4)), int64(d.below(4))))
	}
	for i := range int64(d.below(8)) {
		out = append(out, nums("e", i, i+1))
	}
	return out
}

// stop is one that lets about so many rounds be, with what the chapter says of it.
func (d *dice) stop(rounds int) (*par.Stop, slowStop) {
	n := rounds + d.below(4) - 2
	if d.below(5) == 0 {
		n = -1 - d.below(3)
	}
	return par.NewStop(n), slowStop{rounds: n}
}

// wantLeft asks for what a stop has come to.
func wantLeft(t *testing.T, s *par.Stop, want slowStop) {
	t.Helper()
	if s.Stopped() != want.stopped {
		t.Errorf("Stopped = %v; want %v", s.Stopped(), want.stopped)
	}
	if want.rounds >= 0 && !want.stopped {
		if n := left(s); n != want.rounds {
			t.Errorf("%d rounds are left; want %d", n, want.rounds)
		}
	}
}

// P26.1 to P26.3, P0.3: any rules of one level over any facts, by any crew and any stop.
func TestRunOfAnything(t *testing.T) {
	d := dice(1)
	told := map[api.Errno]int{}
	deep, most := 0, 0
	for range 2500 {
		rules, l := d.flat(4), d.pairs()
		want, x := slowRun(rules, l)
		for range 3 {
			s, slow := d.stop(x.Rounds)
			code := slow.draw(x.Rounds)
			facts, tale := show(want), stats(x)
			if code != api.OK {
				facts, tale = "", "0 [] 0"
			}
			workers := d.crew()
			got, y, err := par.Run(rules, l, workers, s)
			if err != code || show(got) != facts || stats(y) != tale {
				t.Fatalf("Run(%s, %s, %d) = %s, %s, %d; want %s, %s, %d", brief(rules), brief(show(l)), workers, brief(show(got)), stats(y), err, brief(facts), tale, code)
			}
			wantLeft(t, s, slow)
			told[code]++
		}
		if x.Rounds > 3 {
			deep++
		}
		most = max(most, x.Joins)
	}
	if told[api.OK] < 3000 || told[api.ErrStopped] < 1500 || deep < 150 || most < 1000 {
		t.Errorf("%v, %d had more than 3 rounds, %d joins was the most", told, deep, most)
	}
}

// P26.1, P26.2, P26.4, P26.5: any programs over any facts, by any crew and any stop.
func TestModelOfAnything(t *testing.T) {
	d := dice(2)
	told := map[api.Errno]int{}
	heights := map[int]int{}
	for range 3000 {
		rules, l := d.leveled(9), d.facts(16)
		levels, _ := slowLevels(rules)
		want, rounds := slowModel(rules, l, levels)
		for range 3 {
			s, slow := d.stop(rounds)
			code := slow.draw(rounds)
			facts := show(want)
			if code != api.OK {
				facts = ""
			}
			workers := d.crew()
			got, err := par.Model(api.Program{Rules: rules}, l, workers, s)
			if err != code || show(got) != facts {
				t.Fatalf("Model(%s, %s, %d) = %s, %d; want %s, %d", brief(rules), brief(show(l)), workers, brief(show(got)), err, brief(facts), code)
			}
			wantLeft(t, s, slow)
			told[code]++
		}
		heights[len(slices.Compact(slices.Sorted(func(yield func(int) bool) {
			for _, r := range rules {
				if !yield(levels[r.Pred]) {
					return
				}
			}
		})))]++
	}
	if told[api.OK] < 2500 || told[api.ErrStopped] < 2500 || heights[0] < 100 || heights[1] < 300 || heights[2] < 300 || heights[3] < 300 || heights[4] < 50 {
		t.Errorf("%v, levels with rules: %v", told, heights)
	}
}

// broken turns one thing of a rule, so that it mostly is none as it may be, or may not be used.
func (d *dice) broken(r api.Rule) api.Rule {
	switch d.below(6) {
	case 0:
		r.Pred = d.one("", "P", "not", "a", "e", "_")
	case 1:
		r.Head = append(slices.Clone(r.Head), api.Arg{Agg: api.Agg(d.below(7) - 1), Term: d.term()})
	case 2:
		r.Body = append(slices.Clone(r.Body), api.Literal{Kind: api.LitKind(d.below(6) - 1), Atom: d.atom(d.pred(given()))})
	case 3:
		r.Body = append(slices.Clone(r.Body), api.Literal{Kind: api.LNot, Atom: api.Atom{Pred: d.one("e", "n", "a", "new", "E"), Args: []api.Term{v(d.one("X", "U", "_", "u"))}}})
	case 4:
		r.Body = append(slices.Clone(r.Body), cmp(d.expr(1), api.Rel(d.below(9)-1), api.Expr{Op: api.Op(d.below(13) - 1), Kids: []api.Expr{d.expr(1)}}))
	case 5:
		r.Head = append(slices.Clone(r.Head), count())
	}
	return r
}

// P26.3, P26.5, R1, R2: rules, facts and crews of which some are none: the first error, and the stop has not been asked.
func TestWhatMayNotBe(t *testing.T) {
	d := dice(3)
	told := map[api.Errno]int{}
	for range 8000 {
		rules, l, workers := d.rules(4), d.facts(6), d.below(api.MaxWorkers+5)-2
		for i, r := range rules {
			if d.below(8) == 0 {
				rules[i] = d.broken(r)
			}
		}
		switch d.below(12) {
		case 0:
			l = append(l, fact("E"), d.factOf(given()[2]))
		case 1:
			l = append(l, fact("e", num(1), api.Value{Kind: 3}))
		case 2:
			l = append(l, wide(d.one("e", "n", "a", "z", "new"), d.below(3)))
		}
		run, model := slowRefuseRun(rules, l, workers), slowRefuseModel(rules, l, workers)
		wantRunCode(t, rules, l, workers, run)
		wantModelCode(t, rules, l, workers, model)
		told[run]++
		told[model]++
	}
	for _, code := range []api.Errno{api.OK, api.ErrArg, api.ErrTerm, api.ErrSafe, api.ErrValue, api.ErrArity, api.ErrLevel, api.ErrNegCycle, api.ErrAggCycle, api.ErrMakeCycle} {
		if told[code] < 30 {
			t.Errorf("%d was told %d times alone", code, told[code])
		}
	}
}
