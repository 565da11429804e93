package core_test

import (
	"slices"
	"strconv"
	"testing"

	"pedigree/api"
	"pedigree/core"
	"pedigree/naive"
	"pedigree/term"
)

// dice are numbers that look thrown and are the same in each run.
type dice uint64

func (d *dice) below(n int) int {
	*d = *d*6364136223846793005 + 1442695040888963407
	return int(uint64(*d>>33) % uint64(n))
}

func (d *dice) one(l ...string) string { return l[d.below(len(l))] }

func (d *dice) pred(l []api.Pred) api.Pred { return l[d.below(len(l))] }

// given are predicates that wild rules read alone.
func given() []api.Pred {
	return []api.Pred{{Name: "g"}, {Name: "n", Arity: 1}, {Name: "e", Arity: 2}, {Name: "e", Arity: 2}, {Name: "e", Arity: 2}}
}

// ruled are those that wild rules are for.
func ruled() []api.Pred {
	return []api.Pred{{Name: "a"}, {Name: "p", Arity: 1}, {Name: "q_0", Arity: 1}, {Name: "t", Arity: 2}, {Name: "t", Arity: 2}}
}

func (d *dice) value() api.Value {
	if d.below(2) == 0 {
		return text("#" + strconv.Itoa(d.below(4)))
	}
	return num(int64(d.below(2)))
}

func (d *dice) term() api.Term {
	switch d.below(12) {
	case 0:
		return api.Term{Val: d.value()}
	case 1:
		return v("_")
	}
	return v(d.one("X", "X", "Y", "Z", "W"))
}

func (d *dice) literal() api.Literal {
	p := d.pred(given())
	if d.below(3) == 0 {
		p = d.pred(ruled())
	}
	l := pos(p.Name)
	for range p.Arity {
		l.Atom.Args = append(l.Atom.Args, d.term())
	}
	return l
}

// rule is a simple one that may be used.
func (d *dice) rule(most int) api.Rule {
	p := d.pred(ruled())
	r := api.Rule{Pred: p.Name}
	for range d.below(most + 1) {
		r.Body = append(r.Body, d.literal())
	}
	names := term.RuleVars(r)
	for range p.Arity {
		if len(names) == 0 || d.below(8) == 0 {
			r.Head = append(r.Head, api.Arg{Term: api.Term{Val: d.value()}})
		} else {
			r.Head = append(r.Head, api.Arg{Term: v(d.one(names...))})
		}
	}
	return r
}

func isSafe(r api.Rule) bool {
	names := term.RuleVars(api.Rule{Pred: "p", Body: r.Body})
	return !slices.ContainsFunc(term.RuleVars(r), func(name string) bool { return !slices.Contains(names, name) })
}

// variant is a rule that often follows from one: with variables replaced, literals added and doubled, in another order, or with one less.
func (d *dice) variant(r api.Rule) api.Rule {
	for range 50 {
		out, err := r, api.OK
		if d.below(2) == 0 {
			var s []api.Pair
			for _, name := range term.RuleVars(r) {
				s = append(s, api.Pair{Var: name, Term: d.term()})
			}
			out, err = term.ApplyRule(s, r)
		}
		if err != api.OK {
			continue
		}
		out.Body = slices.Clone(out.Body)
		for range d.below(3) {
			l := d.literal()
			if len(out.Body) > 0 && d.below(3) == 0 {
				l = out.Body[d.below(len(out.Body))]
			}
			out.Body = slices.Insert(out.Body, d.below(len(out.Body)+1), l)
		}
		if len(out.Body) > 0 && d.below(4) == 0 {
			i := d.below(len(out.Body))
			out.Body = slices.Delete(out.Body, i, i+1)
		}
		if isSafe(out) && len(out.Body) < 7 {
			return out
		}
	}
	return r
}

// unfolded is a rule with an atom of its body replaced by the body of a rule for it, so that it follows from the two; false, if there is none.
func (d *dice) unfolded(r api.Rule, rules []api.Rule) (api.Rule, bool) {
	if len(r.Body) == 0 {
		return r, false
	}
	i, other := d.below(len(r.Body)), rules[d.below(len(rules))]
	var s []api.Pair
	for n, name := range term.RuleVars(other) {
		s = append(s, api.Pair{Var: name, Term: v("U" + strconv.Itoa(n))})
	}
	other, _ = term.ApplyRule(s, other)
	a, _ := term.Head(other)
	s, ok := term.Unify(r.Body[i].Atom, a)
	if !ok {
		return r, false
	}
	long := api.Rule{Pred: r.Pred, Head: r.Head, Body: slices.Concat(r.Body[:i], other.Body, r.Body[i+1:])}
	out, err := term.ApplyRule(s, long)
	return out, err == api.OK && isSafe(out) && len(out.Body) < 8
}

// rules are simple ones; many follow from others.
func (d *dice) rules(most, body int) []api.Rule {
	var out []api.Rule
	for range 1 + d.below(most) {
		r := d.rule(body)
		switch d.below(4) {
		case 0:
			if len(out) > 0 {
				r = d.variant(out[d.below(len(out))])
			}
		case 1:
			if len(out) > 0 {
				if long, ok := d.unfolded(out[d.below(len(out))], out); ok {
					r = long
				}
			}
		}
		out = append(out, r)
	}
	return out
}

// unary are rules of one variable, which hang together in rings.
func (d *dice) unary(most int) []api.Rule {
	var out []api.Rule
	for range 1 + d.below(most) {
		r := api.Rule{Pred: d.one("a", "b", "c", "d"), Head: head(v("X"))}
		for range 1 + d.below(3) {
			r.Body = append(r.Body, pos(d.one("a", "b", "c", "d", "e"), v("X")))
		}
		out = append(out, r)
	}
	return out
}

// What follows here is written along the chapter, word by word, with lists alone.

// slowFreeze freezes a rule with texts that are no values in rules.
func slowFreeze(r api.Rule, rules ...api.Rule) ([]api.Fact, api.Fact) {
	var values []string
	for _, x := range rules {
		a, _ := term.Head(x)
		atoms := []api.Atom{a}
		for _, l := range x.Body {
			atoms = append(atoms, l.Atom)
		}
		for _, a := range atoms {
			for _, t := range a.Args {
				values = append(values, t.Val.Text)
			}
		}
	}
	var free []string
	for i := range 600 {
		if s := "#" + strconv.Itoa(i); !slices.Contains(values, s) {
			free = append(free, s)
		}
	}
	names, blanks := term.RuleVars(r), 0
	freeze := func(l []api.Term) []api.Value {
		var out []api.Value
		for _, t := range l {
			switch {
			case t.Var == "_":
				out = append(out, text(free[len(names)+blanks]))
				blanks++
			case t.Var != "":
				out = append(out, text(free[slices.Index(names, t.Var)]))
			default:
				out = append(out, t.Val)
			}
		}
		return out
	}
	var body []api.Fact
	for _, l := range r.Body {
		body = append(body, api.Fact{Pred: l.Atom.Pred, Args: freeze(l.Atom.Args)})
	}
	var terms []api.Term
	for _, a := range r.Head {
		terms = append(terms, a.Term)
	}
	return body, api.Fact{Pred: r.Pred, Args: freeze(terms)}
}

func isFact(f api.Fact) func(api.Fact) bool {
	return func(x api.Fact) bool { return x.Pred == f.Pred && slices.Equal(x.Args, f.Args) }
}

// slowFollows: is the head among what the rules come to over the body, both frozen?
func slowFollows(t *testing.T, rules []api.Rule, r api.Rule) bool {
	t.Helper()
	body, head := slowFreeze(r, append(slices.Clone(rules), r)...)
	all, err := naive.Ranks(rules, body)
	if err != api.OK {
		t.Fatalf("Ranks(%s, %s): %d", showRules(rules...), showFacts(body...), err)
	}
	return slices.ContainsFunc(all, func(x api.Ranked) bool { return isFact(head)(x.Fact) })
}

func slowSame(t *testing.T, a, b []api.Rule) bool {
	t.Helper()
	for _, r := range b {
		if !slowFollows(t, a, r) {
			return false
		}
	}
	for _, r := range a {
		if !slowFollows(t, b, r) {
			return false
		}
	}
	return true
}

// slowLeast makes passes; with it is told how many there were, and how many rules and literals they took away.
func slowLeast(t *testing.T, rules []api.Rule) (left []api.Rule, passes, gone, literals int) {
	t.Helper()
	left = slices.Clone(rules)
	for {
		passes++
		before := gone + literals
		for i := len(left) - 1; i >= 0; i-- {
			if slowFollows(t, slices.Concat(left[:i], left[i+1:]), left[i]) {
				left = slices.Concat(left[:i], left[i+1:])
				gone++
				continue
			}
			for j := len(left[i].Body) - 1; j >= 0; j-- {
				r := left[i]
				r.Body = slices.Concat(r.Body[:j], r.Body[j+1:])
				if isSafe(r) && slowFollows(t, left, r) {
					left[i] = r
					literals++
				}
			}
		}
		if gone+literals == before {
			return left, passes, gone, literals
		}
	}
}

// P21.2: any simple rule, against the slow one.
func TestFreezeOfAnything(t *testing.T) {
	d := dice(1)
	passed := 0
	for range 6000 {
		r := d.rule(6)
		body, head, err := core.Freeze(r)
		l, f := slowFreeze(r, r)
		if err != api.OK || showFacts(body...) != showFacts(l...) || showFacts(head) != showFacts(f) {
			t.Fatalf("Freeze(%s): %s; %s, %d; want %s; %s", showRules(r), showFacts(body...), showFacts(head), err, showFacts(l...), showFacts(f))
		}
		if other, _ := slowFreeze(r); showFacts(other...) != showFacts(l...) {
			passed++
		}
	}
	if passed < 600 {
		t.Errorf("%d passed a text by alone", passed)
	}
}

// P21.3: any rules and any rule, against the slow one.
func TestFollowsOfAnything(t *testing.T) {
	d := dice(2)
	yes, far, no := 0, 0, 0
	for range 5000 {
		rules := d.rules(5, 4)
		r := d.variant(rules[d.below(len(rules))])
		if long, ok := d.unfolded(rules[d.below(len(rules))], rules); ok && d.below(3) > 0 {
			r = long
		}
		if d.below(4) == 0 {
			rules = d.unary(6)
			r = rules[0]
		}
		rules = slices.Delete(rules, 0, d.below(2))
		got, err := core.Follows(rules, r)
		if want := slowFollows(t, rules, r); err != api.OK || got != want {
			t.Fatalf("Follows(%s, %s): %v, %d", showRules(rules...), showRules(r), got, err)
		}
		if !got {
			no++
			continue
		}
		yes++
		if !slices.ContainsFunc(rules, func(x api.Rule) bool { return slowFollows(t, []api.Rule{x}, r) }) {
			far++
		}
	}
	if yes < 2000 || far < 100 || no < 1000 {
		t.Errorf("%d followed, of which %d from several rules alone; %d did not", yes, far, no)
	}
}

// P21.3: any two lists, against the slow one.
func TestSameOfAnything(t *testing.T) {
	d := dice(3)
	yes, no := 0, 0
	for range 2000 {
		a := d.rules(4, 3)
		b := slices.Clone(a)
		for range 1 + d.below(2) {
			i := d.below(len(b))
			b[i] = d.variant(b[i])
			if long, ok := d.unfolded(a[d.below(len(a))], a); ok {
				b = append(b, long)
			}
		}
		got, err := core.Same(a, b)
		if err != api.OK || got != slowSame(t, a, b) {
			t.Fatalf("Same(%s, %s): %v, %d", showRules(a...), showRules(b...), got, err)
		}
		if got {
			yes++
		} else {
			no++
		}
	}
	if yes < 500 || no < 500 {
		t.Errorf("%d were the same, %d not", yes, no)
	}
}

// P21.4: any rules, against the slow one.
func TestLeastOfAnything(t *testing.T) {
	d := dice(4)
	third, rulesGone, literalsGone, stayed := 0, 0, 0, 0
	for range 1500 {
		rules := d.rules(6, 4)
		if d.below(2) == 0 {
			rules = d.unary(9)
		}
		got, err := core.Least(rules)
		want, passes, gone, literals := slowLeast(t, rules)
		if err != api.OK || showRules(got...) != showRules(want...) {
			t.Fatalf("Least(%s), %d:\n%swant:\n%s", showRules(rules...), err, showRules(got...), showRules(want...))
		}
		if passes > 2 {
			third++
		}
		rulesGone += gone
		literalsGone += literals
		stayed += len(got)
	}
	if third < 8 || rulesGone < 1500 || literalsGone < 800 || stayed < 2000 {
		t.Errorf("%d had three passes, %d rules and %d literals went, %d rules stayed", third, rulesGone, literalsGone, stayed)
	}
}

// broken turns one thing of a rule, so that it mostly is none as it may be, may not be used, or is not simple.
func (d *dice) broken(r api.Rule) api.Rule {
	r.Head, r.Body = slices.Clone(r.Head), slices.Clone(r.Body)
	switch d.below(6) {
	case 0:
		r.Pred = d.one("", "P", "not", "p", "e")
	case 1:
		r.Head = append(r.Head, api.Arg{Agg: api.Agg(d.below(7) - 1), Term: d.term()})
	case 2:
		r.Body = append(r.Body, d.literal())
		r.Body[len(r.Body)-1].Kind = api.LitKind(d.below(6) - 1)
	case 3:
		r.Body = append(r.Body, pos(d.one("e", "n", "p", "new", "E"), v(d.one("X", "U", "_", "u"))))
	case 4:
		r.Body = append(r.Body, cmp(ex(d.term()), api.Rel(d.below(8)-1), ex(d.term())))
	case 5:
		r.Head = append(r.Head, api.Arg{Term: v(d.one("U", "X", "_", "u"))})
	}
	return r
}

// slowRuleCode is the error of check.Rule, by DOC.md's words.
func slowRuleCode(r api.Rule) api.Errno {
	if term.CheckRule(r) != api.OK {
		return api.ErrTerm
	}
	var limited []string
	for _, l := range r.Body {
		if l.Kind == api.LPos {
			limited = append(limited, term.AtomVars(l.Atom)...)
		}
	}
	for range r.Body {
		for _, l := range r.Body {
			for _, side := range [][2]api.Expr{{l.Left, l.Right}, {l.Right, l.Left}} {
				other := side[1].Term.Var
				if l.Kind == api.LCmp && l.Rel == api.RelEq && (other == "" || slices.Contains(limited, other)) {
					limited = append(limited, side[0].Term.Var)
				}
			}
		}
	}
	if slices.ContainsFunc(term.RuleVars(r), func(name string) bool { return !slices.Contains(limited, name) }) {
		return api.ErrSafe
	}
	return api.OK
}

func isSimple(r api.Rule) bool {
	for _, a := range r.Head {
		if a.Agg != api.AggNone {
			return false
		}
	}
	for _, l := range r.Body {
		if l.Kind != api.LPos {
			return false
		}
	}
	return true
}

// slowCode says the first error of rules, by P21.1's words.
func slowCode(rules []api.Rule) api.Errno {
	var preds []api.Pred
	for _, r := range rules {
		if err := slowRuleCode(r); err != api.OK {
			return err
		}
		preds = append(preds, api.Pred{Name: r.Pred, Arity: len(r.Head)})
		for _, l := range r.Body {
			if l.Kind != api.LCmp {
				preds = append(preds, api.Pred{Name: l.Atom.Pred, Arity: len(l.Atom.Args)})
			}
		}
	}
	for _, p := range preds {
		if slices.ContainsFunc(preds, func(x api.Pred) bool { return x.Name == p.Name && x.Arity != p.Arity }) {
			return api.ErrArity
		}
	}
	if slices.ContainsFunc(rules, func(r api.Rule) bool { return !isSimple(r) }) {
		return api.ErrPlain
	}
	return api.OK
}

// P21.1, R1: rules of which some may not be.
func TestWhatMayNotBe(t *testing.T) {
	d := dice(5)
	codes := map[api.Errno]int{}
	for range 10000 {
		rules := d.rules(3, 2)
		for i, r := range rules {
			if d.below(4) == 0 {
				rules[i] = d.broken(r)
			}
			code := slowRuleCode(rules[i])
			if code == api.OK && !isSimple(rules[i]) {
				code = api.ErrPlain
			}
			wantFreezeCode(t, rules[i], code)
		}
		code := slowCode(rules)
		wantListCode(t, rules, code)
		codes[code]++
	}
	for _, code := range []api.Errno{api.OK, api.ErrTerm, api.ErrSafe, api.ErrArity, api.ErrPlain} {
		if codes[code] < 150 {
			t.Errorf("%d was told %d times alone", code, codes[code])
		}
	}
}
