package magic_test

import (
	"slices"
	"strconv"
	"strings"
	"testing"

	"pedigree/adorn"
	"pedigree/api"
	"pedigree/magic"
	"pedigree/term"
)

// dice are numbers that look thrown and are the same in each run.
type dice uint64

func (d *dice) below(n int) int {
	*d = *d*6364136223846793005 + 1442695040888963407
	return int(uint64(*d>>33) % uint64(n))
}

func (d *dice) one(l ...string) string { return l[d.below(len(l))] }

// given are predicates that wild rules read alone, mostly; of ghost there are no facts.
func given() []api.Pred {
	return []api.Pred{{Name: "g"}, {Name: "n", Arity: 1}, {Name: "e", Arity: 2}, {Name: "e", Arity: 2}, {Name: "ghost", Arity: 1}}
}

// ruled are those that wild rules are for.
func ruled() []api.Pred {
	return []api.Pred{{Name: "a"}, {Name: "p", Arity: 1}, {Name: "r", Arity: 1}, {Name: "t", Arity: 2}, {Name: "s", Arity: 2}, {Name: "u", Arity: 3}}
}

func (d *dice) pred(l []api.Pred) api.Pred { return l[d.below(len(l))] }

func (d *dice) value() api.Value {
	if d.below(5) == 0 {
		return text(d.one("", "a"))
	}
	return num(int64(d.below(4)))
}

func (d *dice) variable() string { return d.one("X", "Y", "Z", "W", "V0") }

func (d *dice) term() api.Term {
	switch d.below(10) {
	case 0:
		return api.Term{Val: d.value()}
	case 1:
		return v("_")
	}
	return v(d.variable())
}

func (d *dice) atom(p api.Pred) api.Atom {
	a := api.Atom{Pred: p.Name}
	for range p.Arity {
		a.Args = append(a.Args, d.term())
	}
	return a
}

func (d *dice) expr(deep int) api.Expr {
	if deep == 0 || d.below(3) > 0 {
		if d.below(5) == 0 {
			return ex(api.Term{Val: d.value()})
		}
		return ex(v(d.variable()))
	}
	switch o := api.OpNeg + api.Op(d.below(int(api.OpBack))); o {
	case api.OpNeg, api.OpLen, api.OpChars, api.OpBack:
		return op(o, d.expr(deep-1))
	default:
		return op(o, d.expr(deep-1), d.expr(deep-1))
	}
}

func (d *dice) literal() api.Literal {
	switch d.below(12) {
	case 0:
		return api.Literal{Kind: api.LNot, Atom: d.atom(d.pred(given()))}
	case 1:
		return cmp(d.expr(2), api.RelEq+api.Rel(d.below(6)), d.expr(2))
	case 2, 3:
		return cmp(d.expr(1), api.RelEq, d.expr(1))
	case 4, 5, 6, 7:
		return api.Literal{Kind: api.LPos, Atom: d.atom(d.pred(ruled()))}
	}
	return api.Literal{Kind: api.LPos, Atom: d.atom(d.pred(given()))}
}

// rule is one that may be used, without aggregates.
func (d *dice) rule(most int) api.Rule {
	for {
		p := d.pred(ruled())
		r := api.Rule{Pred: p.Name}
		for range d.below(most + 1) {
			r.Body = append(r.Body, d.literal())
		}
		names := term.RuleVars(r)
		for range p.Arity {
			if len(names) > 0 && d.below(6) > 0 {
				r.Head = append(r.Head, api.Arg{Term: v(d.one(names...))})
			} else {
				r.Head = append(r.Head, api.Arg{Term: api.Term{Val: d.value()}})
			}
		}
		if isSafe(r) {
			return r
		}
	}
}

// rules may be used, and are mostly plain.
func (d *dice) rules(most, body int) []api.Rule {
	var out []api.Rule
	for range most/2 + d.below(most) {
		r := d.rule(body)
		if !makes(r) || d.below(20) == 0 {
			out = append(out, r)
		}
	}
	if d.below(15) == 0 {
		r := d.rule(body)
		r.Body = append(r.Body, not(d.one("a", "g")))
		out = append(out, r)
	}
	return out
}

// plain are rules that are plain.
func (d *dice) plain(most, body int) []api.Rule {
	for {
		if rules := d.rules(most, body); isPlain(rules) {
			return rules
		}
	}
}

// query is mostly one of a predicate that the rules are for.
func (d *dice) query() api.Atom {
	if d.below(12) == 0 {
		return d.atom(d.pred(given()))
	}
	q := d.atom(d.pred(ruled()))
	for i := range q.Args {
		if d.below(2) == 0 {
			q.Args[i] = api.Term{Val: d.value()}
		}
	}
	return q
}

// facts are of predicates that are given, and of some for which rules may be.
func (d *dice) facts(most int) []api.Fact {
	var out []api.Fact
	for range d.below(most + 1) {
		p := d.pred(given()[:4])
		if d.below(5) == 0 {
			p = d.pred(ruled())
		}
		f := api.Fact{Pred: p.Name}
		for range p.Arity {
			f.Args = append(f.Args, d.value())
		}
		out = append(out, f)
	}
	return out
}

// What follows here is written along DOC.md and the chapter, word by word, with lists alone.

func areAmong(some, all []string) bool {
	return !slices.ContainsFunc(some, func(name string) bool { return !slices.Contains(all, name) })
}

// isSafe: DOC.md, 'Limited'.
func isSafe(r api.Rule) bool {
	var limited []string
	for _, lit := range r.Body {
		if lit.Kind == api.LPos {
			limited = append(limited, term.AtomVars(lit.Atom)...)
		}
	}
	for range r.Body {
		for _, lit := range r.Body {
			if lit.Kind != api.LCmp || lit.Rel != api.RelEq {
				continue
			}
			for _, side := range [][2]api.Expr{{lit.Left, lit.Right}, {lit.Right, lit.Left}} {
				if side[0].Term.Var != "" && areAmong(term.ExprVars(side[1]), limited) {
					limited = append(limited, side[0].Term.Var)
				}
			}
		}
	}
	return areAmong(term.RuleVars(r), limited)
}

func makes(r api.Rule) bool {
	operation, made := false, false
	var atoms []string
	for _, lit := range r.Body {
		if lit.Kind == api.LPos {
			atoms = append(atoms, term.AtomVars(lit.Atom)...)
		}
		operation = operation || len(lit.Left.Kids)+len(lit.Right.Kids) > 0
	}
	for _, a := range r.Head {
		made = made || a.Term.Var != "" && !slices.Contains(atoms, a.Term.Var)
	}
	return operation && made
}

func hasRules(rules []api.Rule, pred string) bool {
	return slices.ContainsFunc(rules, func(r api.Rule) bool { return r.Pred == pred })
}

// isPlain: DOC.md, 'Rules are plain'.
func isPlain(rules []api.Rule) bool {
	for _, r := range rules {
		if makes(r) || slices.ContainsFunc(r.Head, func(a api.Arg) bool { return a.Agg != api.AggNone }) {
			return false
		}
		for _, lit := range r.Body {
			if lit.Kind == api.LNot && hasRules(rules, lit.Atom.Pred) {
				return false
			}
		}
	}
	return true
}

// pairOf is the pair of a name.
func pairOf(pairs []api.Adorned, name string) (api.Adorned, bool) {
	for _, p := range pairs {
		if "q_"+p.Pattern+"_"+p.Pred == name {
			return p, true
		}
	}
	return api.Adorned{}, false
}

// slowMagic is the magic atom of an atom of a pair.
func slowMagic(pair api.Adorned, terms []api.Term) api.Atom {
	out := api.Atom{Pred: "q_m_" + pair.Pattern + "_" + pair.Pred}
	for i, c := range pair.Pattern {
		if c == 'b' {
			out.Args = append(out.Args, terms[i])
		}
	}
	return out
}

// slowRule is a rule with that head.
func slowRule(a api.Atom, body []api.Literal) api.Rule {
	return api.Rule{Pred: a.Pred, Head: head(a.Args...), Body: body}
}

// slowLive are the variables that are live at the literal of a number of a rule whose magic atom is m.
func slowLive(r api.Rule, m api.Atom, at int) []api.Term {
	ahead := append(term.AtomVars(m), term.RuleVars(api.Rule{Body: r.Body[:at]})...)
	behind := term.RuleVars(api.Rule{Head: r.Head, Body: r.Body[at:]})
	var out []api.Term
	for _, name := range ahead {
		if slices.Contains(behind, name) && !slices.Contains(out, v(name)) {
			out = append(out, v(name))
		}
	}
	return out
}

// slowParts are the rules to which the parts of a rule of the adorned goal come.
func slowParts(number int, r api.Rule, pairs []api.Adorned) []api.Rule {
	var terms []api.Term
	for _, a := range r.Head {
		terms = append(terms, a.Term)
	}
	own, _ := pairOf(pairs, r.Pred)
	m := slowMagic(own, terms)
	var out []api.Rule
	part, k := []api.Literal{{Kind: api.LPos, Atom: m}}, 0
	for at, lit := range r.Body {
		pair, ok := pairOf(pairs, lit.Atom.Pred)
		if lit.Kind != api.LPos || !ok {
			part = append(part, lit)
			continue
		}
		s := api.Atom{Pred: "q_s_" + strconv.Itoa(number) + "_" + strconv.Itoa(k), Args: slowLive(r, m, at)}
		out = append(out, slowRule(s, part), slowRule(slowMagic(pair, lit.Atom.Args), []api.Literal{{Kind: api.LPos, Atom: s}}))
		part = []api.Literal{{Kind: api.LPos, Atom: s}, lit}
		k++
	}
	return append(out, api.Rule{Pred: r.Pred, Head: r.Head, Body: part})
}

// slowRewrite is P19.2, for rules and a query to which it does not answer another error than ErrSize.
func slowRewrite(t *testing.T, rules []api.Rule, q api.Atom) (api.Goal, api.Errno) {
	t.Helper()
	adorned, pairs, err := adorn.Adorn(rules, q)
	if err != api.OK {
		t.Fatalf("Adorn(%s, %s): %d", showRules(rules), showAtom(q), err)
	}
	if !hasRules(rules, q.Pred) {
		return api.Goal{Query: q}, api.OK
	}
	g := api.Goal{Query: adorned.Query}
	for i, r := range adorned.Rules {
		g.Rules = append(g.Rules, slowParts(i, r, pairs)...)
	}
	seed := api.Fact{Pred: "q_m_" + pairs[0].Pattern + "_" + q.Pred}
	for _, x := range q.Args {
		if x.Var == "" {
			seed.Args = append(seed.Args, x.Val)
		}
	}
	g.Seeds = []api.Fact{seed}
	for _, r := range g.Rules {
		if term.CheckRule(r) != api.OK {
			return api.Goal{}, api.ErrSize
		}
	}
	return g, api.OK
}

// isFact: DOC.md, 'a fact as it may be'; every value that a term may be is one.
func isFact(f api.Fact) bool {
	return term.CheckAtom(atom(f.Pred)) == api.OK && len(f.Args) <= api.MaxWide && !slices.ContainsFunc(f.Args, func(x api.Value) bool { return term.CheckTerm(api.Term{Val: x}) != api.OK })
}

// slowCode says the first error, by P19.1's words, but for ErrSize.
func slowCode(rules []api.Rule, l []api.Fact, q api.Atom) api.Errno {
	var preds []api.Pred
	for _, r := range rules {
		if term.CheckRule(r) != api.OK {
			return api.ErrTerm
		}
		if !isSafe(r) {
			return api.ErrSafe
		}
		preds = append(preds, api.Pred{Name: r.Pred, Arity: len(r.Head)})
		for _, lit := range r.Body {
			if lit.Kind != api.LCmp {
				preds = append(preds, api.Pred{Name: lit.Atom.Pred, Arity: len(lit.Atom.Args)})
			}
		}
	}
	for _, f := range l {
		if !isFact(f) {
			return api.ErrValue
		}
		preds = append(preds, api.Pred{Name: f.Pred, Arity: len(f.Args)})
	}
	for _, p := range preds {
		if slices.ContainsFunc(preds, func(x api.Pred) bool { return x.Name == p.Name && x.Arity != p.Arity }) {
			return api.ErrArity
		}
	}
	if term.CheckAtom(q) != api.OK {
		return api.ErrTerm
	}
	if slices.ContainsFunc(preds, func(x api.Pred) bool { return x.Name == q.Pred && x.Arity != len(q.Args) }) {
		return api.ErrArity
	}
	if slices.ContainsFunc(append(preds, api.Pred{Name: q.Pred}), func(x api.Pred) bool { return strings.HasPrefix(x.Name, "q_") }) {
		return api.ErrReserved
	}
	if !isPlain(rules) {
		return api.ErrPlain
	}
	return api.OK
}

// broken turns one thing of a rule, so that it mostly is none as it may be, or may not be used.
func (d *dice) broken(r api.Rule) api.Rule {
	r.Head, r.Body = slices.Clone(r.Head), slices.Clone(r.Body)
	switch d.below(7) {
	case 0:
		r.Pred = d.one("", "P", "not", "p", "e", "q_", "q_p")
	case 1:
		r.Head = append(r.Head, api.Arg{Agg: api.Agg(d.below(7) - 1), Term: d.term()})
	case 2:
		r.Body = append(r.Body, api.Literal{Kind: api.LitKind(d.below(6) - 1), Atom: d.atom(d.pred(given()))})
	case 3:
		r.Body = append(r.Body, not(d.one("e", "n", "p", "new", "E", "q_n"), v(d.one("X", "U", "_", "u"))))
	case 4:
		r.Body = append(r.Body, cmp(d.expr(1), api.Rel(d.below(9)-1), api.Expr{Op: api.Op(d.below(13) - 1), Kids: []api.Expr{d.expr(1)}}))
	case 5:
		if len(r.Head) > 0 {
			r.Head[0] = api.Arg{Agg: api.AggCount}
		}
	case 6:
		r.Body = append(r.Body, pos(d.one("q_x", "x", "e"), v("X"), v("Y")))
	}
	return r
}

// P19.1, P19.2: any rules that may be used, and any query, against the slow one.
func TestRewriteOfAnything(t *testing.T) {
	d := dice(1)
	refused, several, dropped, without := 0, 0, 0, 0
	for range 6000 {
		rules, q := d.rules(9, 6), d.query()
		if code := slowCode(rules, nil, q); code != api.OK {
			wantCode(t, rules, nil, q, code)
			refused++
			continue
		}
		g := mustRewrite(t, rules, q)
		want, _ := slowRewrite(t, rules, q)
		if told(g) != told(want) {
			t.Fatalf("Rewrite(%s, %s):\n%s\nwant:\n%s", showRules(rules), showAtom(q), told(g), told(want))
		}
		if len(g.Rules) == 0 {
			without++
		}
		for _, r := range g.Rules {
			if strings.HasPrefix(r.Pred, "q_s_") && !strings.HasSuffix(r.Pred, "_0") {
				several++
			}
			if strings.HasPrefix(r.Pred, "q_s_") && len(r.Head) < len(term.RuleVars(r)) {
				dropped++
			}
		}
	}
	if refused < 150 || several < 7500 || dropped < 2500 || without < 300 {
		t.Errorf("%d were refused, %d atoms stood behind another, %d dropped a variable, %d were without rules", refused, several, dropped, without)
	}
}

// P19.1, P19.2: long bodies, up to the limit and one beyond it.
func TestLongBodiesOfAnything(t *testing.T) {
	d := dice(2)
	codes := map[api.Errno]int{}
	for codes[api.OK] < 300 {
		rules, q := []api.Rule{d.rule(6), d.rule(6)}, d.query()
		for i := range rules {
			for len(rules[i].Body) < api.MaxBody-d.below(2) {
				rules[i].Body = slices.Insert(rules[i].Body, d.below(len(rules[i].Body)+1), d.literal())
			}
		}
		q.Pred, q.Args = rules[0].Pred, d.atom(api.Pred{Arity: len(rules[0].Head)}).Args
		if slowCode(rules, nil, q) != api.OK {
			continue
		}
		g, err := magic.Rewrite(rules, q)
		want, code := slowRewrite(t, rules, q)
		if err != code || told(g) != told(want) {
			t.Fatalf("Rewrite(%s, %s), %d:\n%s\nwant, %d:\n%s", showRules(rules), showAtom(q), err, told(g), code, told(want))
		}
		codes[code]++
	}
	if codes[api.ErrSize] < 30 {
		t.Errorf("%d were too long alone", codes[api.ErrSize])
	}
}

// wrongFact turns one thing of a fact, so that it mostly is none as it may be, or has another number of columns.
func (d *dice) wrongFact(f api.Fact) api.Fact {
	switch d.below(3) {
	case 0:
		f.Pred = d.one("", "P", "not", "p", "e", "q_", "q_p")
	case 1:
		f.Args = append(slices.Clone(f.Args), api.Value{Kind: api.Kind(d.below(4)), Num: int64(d.below(2))})
	case 2:
		f.Args = append(slices.Clone(f.Args), d.value())
	}
	return f
}

// P19.1, R1: rules, facts and queries of which some are none.
func TestWhatMayNotBe(t *testing.T) {
	d := dice(4)
	codes := map[api.Errno]int{}
	for range 12000 {
		rules, l, q := d.rules(5, 4), d.facts(6), d.query()
		for i, r := range rules {
			if d.below(12) == 0 {
				rules[i] = d.broken(r)
			}
		}
		for i, f := range l {
			if d.below(12) == 0 {
				l[i] = d.wrongFact(f)
			}
		}
		switch d.below(10) {
		case 0:
			q.Pred = d.one("q_p", "P", "", "q_", "x", "e", "p", "t")
		case 1:
			q.Args = append(q.Args, d.term())
		case 2:
			q.Args = append(q.Args, api.Term{Var: d.one("x", "", "X")})
		}
		wantRewriteCode(t, rules, q, slowCode(rules, nil, q))
		code := slowCode(rules, l, q)
		wantCode(t, rules, l, q, code)
		codes[code]++
	}
	for _, code := range []api.Errno{api.OK, api.ErrTerm, api.ErrSafe, api.ErrValue, api.ErrArity, api.ErrReserved, api.ErrPlain} {
		if codes[code] < 150 {
			t.Errorf("%d was told %d times alone", code, codes[code])
		}
	}
}
