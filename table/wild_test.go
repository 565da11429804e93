package table_test

import (
	"slices"
	"strings"
	"testing"

	"pedigree/api"
	"pedigree/term"
)

// dice are numbers that look thrown and are the same in each run.
type dice uint64

func (d *dice) below(n int) int {
	*d = *d*6364136223846793005 + 1442695040888963407
	return int(uint64(*d>>33) % uint64(n))
}

func (d *dice) one(l ...string) string { return l[d.below(len(l))] }

// given are predicates that wild rules read alone, mostly; of ghost there are no facts.
func given() []api.Pred {
	return []api.Pred{{Name: "g"}, {Name: "n", Arity: 1}, {Name: "e", Arity: 2}, {Name: "e", Arity: 2}, {Name: "ghost", Arity: 1}}
}

// ruled are those that wild rules are for.
func ruled() []api.Pred {
	return []api.Pred{{Name: "a"}, {Name: "p", Arity: 1}, {Name: "r", Arity: 1}, {Name: "t", Arity: 2}, {Name: "s", Arity: 2}, {Name: "u", Arity: 3}}
}

func (d *dice) pred(l []api.Pred) api.Pred { return l[d.below(len(l))] }

func (d *dice) value() api.Value {
	if d.below(5) == 0 {
		return text(d.one("", "a"))
	}
	return num(int64(d.below(4)))
}

func (d *dice) variable() string { return d.one("X", "Y", "Z", "W", "V0") }

func (d *dice) term() api.Term {
	switch d.below(10) {
	case 0:
		return api.Term{Val: d.value()}
	case 1:
		return v("_")
	}
	return v(d.variable())
}

func (d *dice) atom(p api.Pred) api.Atom {
	a := api.Atom{Pred: p.Name}
	for range p.Arity {
		a.Args = append(a.Args, d.term())
	}
	return a
}

func (d *dice) expr(deep int) api.Expr {
	if deep == 0 || d.below(3) > 0 {
		if d.below(5) == 0 {
			return ex(api.Term{Val: d.value()})
		}
		return ex(v(d.variable()))
	}
	switch o := api.OpNeg + api.Op(d.below(int(api.OpBack))); o {
	case api.OpNeg, api.OpLen, api.OpChars, api.OpBack:
		return op(o, d.expr(deep-1))
	default:
		return op(o, d.expr(deep-1), d.expr(deep-1))
	}
}

func (d *dice) literal() api.Literal {
	switch d.below(12) {
	case 0:
		return api.Literal{Kind: api.LNot, Atom: d.atom(d.pred(given()))}
	case 1:
		return cmp(d.expr(2), api.RelEq+api.Rel(d.below(6)), d.expr(2))
	case 2, 3:
		return cmp(d.expr(1), api.RelEq, d.expr(1))
	case 4, 5, 6, 7:
		return api.Literal{Kind: api.LPos, Atom: d.atom(d.pred(ruled()))}
	}
	return api.Literal{Kind: api.LPos, Atom: d.atom(d.pred(given()))}
}

// rule is one that may be used, without aggregates.
func (d *dice) rule(most int) api.Rule {
	for {
		p := d.pred(ruled())
		r := api.Rule{Pred: p.Name}
		for range d.below(most + 1) {
			r.Body = append(r.Body, d.literal())
		}
		names := term.RuleVars(r)
		for range p.Arity {
			if len(names) > 0 && d.below(6) > 0 {
				r.Head = append(r.Head, api.Arg{Term: v(d.one(names...))})
			} else {
				r.Head = append(r.Head, api.Arg{Term: api.Term{Val: d.value()}})
			}
		}
		if isSafe(r) {
			return r
		}
	}
}

// rules may be used, and are mostly plain.
func (d *dice) rules(most, body int) []api.Rule {
	var out []api.Rule
	for range most/2 + d.below(most) {
		r := d.rule(body)
		if !makes(r) || d.below(20) == 0 {
			out = append(out, r)
		}
	}
	if d.below(15) == 0 {
		r := d.rule(body)
		r.Body = append(r.Body, not(d.one("a", "g")))
		out = append(out, r)
	}
	return out
}

// plain are rules that are plain.
func (d *dice) plain(most, body int) []api.Rule {
	for {
		if rules := d.rules(most, body); isPlain(rules) {
			return rules
		}
	}
}

// query is mostly one of a predicate that the rules are for.
func (d *dice) query() api.Atom {
	if d.below(12) == 0 {
		return d.atom(d.pred(given()))
	}
	q := d.atom(d.pred(ruled()))
	for i := range q.Args {
		if d.below(4) == 0 {
			q.Args[i] = api.Term{Val: d.value()}
		}
	}
	return q
}

// facts are of predicates that are given, and of some for which rules may be.
func (d *dice) facts(most int) []api.Fact {
	var out []api.Fact
	for range d.below(most + 1) {
		p := d.pred(given()[:4])
		if d.below(5) == 0 {
			p = d.pred(ruled())
		}
		f := api.Fact{Pred: p.Name}
		for range p.Arity {
			f.Args = append(f.Args, d.value())
		}
		out = append(out, f)
	}
	return out
}

// What follows here is written along DOC.md and the chapter, word by word, with lists alone.

func areAmong(some, all []string) bool {
	return !slices.ContainsFunc(some, func(name string) bool { return !slices.Contains(all, name) })
}

// isSafe: DOC.md, 'Limited'.
func isSafe(r api.Rule) bool {
	var limited []string
	for _, lit := range r.Body {
		if lit.Kind == api.LPos {
			limited = append(limited, term.AtomVars(lit.Atom)...)
		}
	}
	for range r.Body {
		for _, lit := range r.Body {
			if lit.Kind != api.LCmp || lit.Rel != api.RelEq {
				continue
			}
			for _, side := range [][2]api.Expr{{lit.Left, lit.Right}, {lit.Right, lit.Left}} {
				if side[0].Term.Var != "" && areAmong(term.ExprVars(side[1]), limited) {
					limited = append(limited, side[0].Term.Var)
				}
			}
		}
	}
	return areAmong(term.RuleVars(r), limited)
}

func makes(r api.Rule) bool {
	operation, made := false, false
	var atoms []string
	for _, lit := range r.Body {
		if lit.Kind == api.LPos {
			atoms = append(atoms, term.AtomVars(lit.Atom)...)
		}
		operation = operation || len(lit.Left.Kids)+len(lit.Right.Kids) > 0
	}
	for _, a := range r.Head {
		made = made || a.Term.Var != "" && !slices.Contains(atoms, a.Term.Var)
	}
	return operation && made
}

func hasRules(rules []api.Rule, pred string) bool {
	return slices.ContainsFunc(rules, func(r api.Rule) bool { return r.Pred == pred })
}

// isPlain: DOC.md, 'Rules are plain'.
func isPlain(rules []api.Rule) bool {
	for _, r := range rules {
		if makes(r) || slices.ContainsFunc(r.Head, func(a api.Arg) bool { return a.Agg != api.AggNone }) {
			return false
		}
		for _, lit := range r.Body {
			if lit.Kind == api.LNot && hasRules(rules, lit.Atom.Pred) {
				return false
			}
		}
	}
	return true
}

// isFact: DOC.md, 'a fact as it may be'; every value that a term may be is one.
func isFact(f api.Fact) bool {
	return term.CheckAtom(atom(f.Pred)) == api.OK && len(f.Args) <= api.MaxWide && !slices.ContainsFunc(f.Args, func(x api.Value) bool { return term.CheckTerm(api.Term{Val: x}) != api.OK })
}

// slowCode says the first error, by P22.1's words.
func slowCode(rules []api.Rule, l []api.Fact, q api.Atom) api.Errno {
	var preds []api.Pred
	for _, r := range rules {
		if term.CheckRule(r) != api.OK {
			return api.ErrTerm
		}
		if !isSafe(r) {
			return api.ErrSafe
		}
		preds = append(preds, api.Pred{Name: r.Pred, Arity: len(r.Head)})
		for _, lit := range r.Body {
			if lit.Kind != api.LCmp {
				preds = append(preds, api.Pred{Name: lit.Atom.Pred, Arity: len(lit.Atom.Args)})
			}
		}
	}
	for _, f := range l {
		if !isFact(f) {
			return api.ErrValue
		}
		preds = append(preds, api.Pred{Name: f.Pred, Arity: len(f.Args)})
	}
	for _, p := range preds {
		if slices.ContainsFunc(preds, func(x api.Pred) bool { return x.Name == p.Name && x.Arity != p.Arity }) {
			return api.ErrArity
		}
	}
	if term.CheckAtom(q) != api.OK {
		return api.ErrTerm
	}
	if slices.ContainsFunc(preds, func(x api.Pred) bool { return x.Name == q.Pred && x.Arity != len(q.Args) }) {
		return api.ErrArity
	}
	if slices.ContainsFunc(append(preds, api.Pred{Name: q.Pred}), func(x api.Pred) bool { return strings.HasPrefix(x.Name, "q_") }) {
		return api.ErrReserved
	}
	if !isPlain(rules) {
		return api.ErrPlain
	}
	return api.OK
}

// broken turns one thing of a rule, so that it mostly is none as it may be, or may not be used.
func (d *dice) broken(r api.Rule) api.Rule {
	r.Head, r.Body = slices.Clone(r.Head), slices.Clone(r.Body)
	switch d.below(7) {
	case 0:
		r.Pred = d.one("", "P", "not", "p", "e", "q_", "q_p")
	case 1:
		r.Head = append(r.Head, api.Arg{Agg: api.Agg(d.below(7) - 1), Term: d.term()})
	case 2:
		r.Body = append(r.Body, api.Literal{Kind: api.LitKind(d.below(6) - 1), Atom: d.atom(d.pred(given()))})
	case 3:
		r.Body = append(r.Body, not(d.one("e", "n", "p", "new", "E", "q_n"), v(d.one("X", "U", "_", "u"))))
	case 4:
		r.Body = append(r.Body, cmp(d.expr(1), api.Rel(d.below(9)-1), api.Expr{Op: api.Op(d.below(13) - 1), Kids: []api.Expr{d.expr(1)}}))
	case 5:
		if len(r.Head) > 0 {
			r.Head[0] = api.Arg{Agg: api.AggCount}
		}
	case 6:
		r.Body = append(r.Body, pos(d.one("q_x", "x", "e"), v("X"), v("Y")))
	}
	return r
}

// wrongFact turns one thing of a fact, so that it mostly is none as it may be, or has another number of columns.
func (d *dice) wrongFact(f api.Fact) api.Fact {
	switch d.below(3) {
	case 0:
		f.Pred = d.one("", "P", "not", "p", "e", "q_", "q_p")
	case 1:
		f.Args = append(slices.Clone(f.Args), api.Value{Kind: api.Kind(d.below(4)), Num: int64(d.below(2))})
	case 2:
		f.Args = append(slices.Clone(f.Args), d.value())
	}
	return f
}

// P22.1, R1: rules, facts and queries of which some are none.
func TestWhatMayNotBe(t *testing.T) {
	d := dice(4)
	codes := map[api.Errno]int{}
	for range 12000 {
		rules, l, q := d.rules(5, 4), d.facts(6), d.query()
		for i, r := range rules {
			if d.below(12) == 0 {
				rules[i] = d.broken(r)
			}
		}
		for i, f := range l {
			if d.below(12) == 0 {
				l[i] = d.wrongFact(f)
			}
		}
		switch d.below(10) {
		case 0:
			q.Pred = d.one("q_p", "P", "", "q_", "x", "e", "p", "t")
		case 1:
			q.Args = append(q.Args, d.term())
		case 2:
			q.Args = append(q.Args, api.Term{Var: d.one("x", "", "X")})
		}
		code := slowCode(rules, l, q)
		wantCode(t, rules, l, q, code)
		codes[code]++
	}
	for _, code := range []api.Errno{api.OK, api.ErrTerm, api.ErrSafe, api.ErrValue, api.ErrArity, api.ErrReserved, api.ErrPlain} {
		if codes[code] < 150 {
			t.Errorf("%d was told %d times alone", code, codes[code])
		}
	}
}
