package subsume_test

import (
	"fmt"
	"slices"
	"strconv"
	"strings"
	"testing"

	"pedigree/api"
	"pedigree/subsume"
	"pedigree/term"
	"pedigree/value"
)

// dice are numbers that look thrown and are the same in each run.
type dice uint64

func (d *dice) below(n int) int {
	*d = *d*6364136223846793005 + 1442695040888963407
	return int(uint64(*d>>33) % uint64(n))
}

func (d *dice) one(l ...string) string { return l[d.below(len(l))] }

func (d *dice) pred(l []api.Pred) api.Pred { return l[d.below(len(l))] }

// given are predicates that wild rules read alone.
func given() []api.Pred {
	return []api.Pred{{Name: "g"}, {Name: "n", Arity: 1}, {Name: "e", Arity: 2}, {Name: "e", Arity: 2}}
}

// ruled are those that wild rules are for.
func ruled() []api.Pred {
	return []api.Pred{{Name: "a"}, {Name: "p", Arity: 1}, {Name: "r", Arity: 1}, {Name: "t", Arity: 2}}
}

func (d *dice) value() api.Value {
	if d.below(4) == 0 {
		return text("a")
	}
	return num(int64(d.below(3)))
}

func (d *dice) variable() string { return d.one("X", "X", "Y", "Z") }

func (d *dice) term() api.Term {
	switch d.below(8) {
	case 0:
		return api.Term{Val: d.value()}
	case 1:
		return v("_")
	}
	return v(d.variable())
}

func (d *dice) atom(p api.Pred) api.Atom {
	a := api.Atom{Pred: p.Name}
	for range p.Arity {
		a.Args = append(a.Args, d.term())
	}
	return a
}

func (d *dice) expr(deep int) api.Expr {
	if deep == 0 || d.below(3) > 0 {
		if d.below(3) == 0 {
			return ex(api.Term{Val: d.value()})
		}
		return ex(v(d.variable()))
	}
	switch o := api.OpNeg + api.Op(d.below(int(api.OpBack))); o {
	case api.OpNeg, api.OpLen, api.OpChars, api.OpBack:
		return op(o, d.expr(deep-1))
	default:
		return op(o, d.expr(deep-1), d.expr(deep-1))
	}
}

func (d *dice) literal() api.Literal {
	switch d.below(9) {
	case 0:
		return api.Literal{Kind: api.LNot, Atom: d.atom(d.pred(given()))}
	case 1:
		return cmp(d.expr(1), api.RelEq+api.Rel(d.below(6)), d.expr(1))
	case 2, 3:
		return api.Literal{Kind: api.LPos, Atom: d.atom(d.pred(ruled()))}
	}
	return api.Literal{Kind: api.LPos, Atom: d.atom(d.pred(given()))}
}

func (d *dice) arg(names []string, aggregates bool) api.Arg {
	switch {
	case aggregates && len(names) > 0 && d.below(3) == 0:
		return api.Arg{Agg: api.AggSum + api.Agg(d.below(3)), Term: v(d.one(names...))}
	case aggregates && d.below(2) == 0:
		return api.Arg{Agg: api.AggCount}
	case len(names) == 0 || d.below(6) == 0:
		return api.Arg{Term: api.Term{Val: d.value()}}
	}
	return api.Arg{Term: v(d.one(names...))}
}

// rule is one that may be used, of a predicate.
func (d *dice) rule(p api.Pred, most int) api.Rule {
	for {
		r := api.Rule{Pred: p.Name}
		for range d.below(most + 1) {
			r.Body = append(r.Body, d.literal())
		}
		names, aggregates := term.RuleVars(r), d.below(10) == 0
		for range p.Arity {
			r.Head = append(r.Head, d.arg(names, aggregates))
		}
		if isSafe(r) {
			return r
		}
	}
}

// variant is a rule that one mostly subsumes: with variables replaced, literals doubled and added, in another order.
func (d *dice) variant(r api.Rule) api.Rule {
	for range 50 {
		out, err := r, api.OK
		switch d.below(3) {
		case 0:
			var s []api.Pair
			for _, name := range term.RuleVars(r) {
				s = append(s, api.Pair{Var: name, Term: d.term()})
			}
			out, err = term.ApplyRule(s, r)
		case 1:
			out, err = term.ApplyRule([]api.Pair{{Var: "X", Term: v("Y")}, {Var: "Y", Term: v("X")}}, r)
		}
		if err != api.OK {
			continue
		}
		out.Body = slices.Clone(out.Body)
		for range d.below(3) {
			l := d.literal()
			if len(out.Body) > 0 && d.below(3) == 0 {
				l = out.Body[d.below(len(out.Body))]
			}
			out.Body = slices.Insert(out.Body, d.below(len(out.Body)+1), l)
		}
		if len(out.Body) > 1 && d.below(2) == 0 {
			i, j := d.below(len(out.Body)), d.below(len(out.Body))
			out.Body[i], out.Body[j] = out.Body[j], out.Body[i]
		}
		if len(out.Body) > 0 && d.below(5) == 0 {
			i := d.below(len(out.Body))
			out.Body = slices.Delete(out.Body, i, i+1)
		}
		if isSafe(out) && len(out.Body) < 8 {
			return out
		}
	}
	return r
}

// rules may be used; many of them make others needless.
func (d *dice) rules(most, body int) []api.Rule {
	var out []api.Rule
	for range 1 + d.below(most) {
		switch {
		case len(out) == 0 || d.below(2) == 0:
			out = append(out, d.rule(d.pred(ruled()), body))
		default:
			out = append(out, d.variant(out[d.below(len(out))]))
		}
	}
	return out
}

// What follows here is written along DOC.md and the chapter, word by word, with lists alone.

func areAmong(some, all []string) bool {
	return !slices.ContainsFunc(some, func(name string) bool { return !slices.Contains(all, name) })
}

// isSafe: DOC.md, 'Limited'.
func isSafe(r api.Rule) bool {
	var limited []string
	for _, lit := range r.Body {
		if lit.Kind == api.LPos {
			limited = append(limited, term.AtomVars(lit.Atom)...)
		}
	}
	for range r.Body {
		for _, lit := range r.Body {
			if lit.Kind != api.LCmp || lit.Rel != api.RelEq {
				continue
			}
			for _, side := range [][2]api.Expr{{lit.Left, lit.Right}, {lit.Right, lit.Left}} {
				if side[0].Term.Var != "" && areAmong(term.ExprVars(side[1]), limited) {
					limited = append(limited, side[0].Term.Var)
				}
			}
		}
	}
	return areAmong(term.RuleVars(r), limited)
}

// same: lists are written alike, be they empty or nil.
func same(a, b any) bool { return fmt.Sprintf("%#v", a) == fmt.Sprintf("%#v", b) }

// plainExpr has a nil list where one is empty.
func plainExpr(e api.Expr) api.Expr {
	var kids []api.Expr
	for _, kid := range e.Kids {
		kids = append(kids, plainExpr(kid))
	}
	e.Kids = kids
	return e
}

// keyOf writes a literal so that those that are the same are written alike.
func keyOf(l api.Literal) string {
	l.Atom.Args = append([]api.Term(nil), l.Atom.Args...)
	l.Left, l.Right = plainExpr(l.Left), plainExpr(l.Right)
	return fmt.Sprintf("%#v", l)
}

// loneVar is the variable that both sides of a comparison are; the empty text: they are none.
func loneVar(l api.Literal) string {
	if l.Left.Op == api.OpTerm && l.Right.Op == api.OpTerm && l.Left.Term.Var == l.Right.Term.Var {
		return l.Left.Term.Var
	}
	return ""
}

func always(l api.Literal) bool {
	if l.Kind != api.LCmp {
		return false
	}
	if loneVar(l) != "" {
		return l.Rel == api.RelEq || l.Rel == api.RelLe || l.Rel == api.RelGe
	}
	x, fine := term.Eval(l.Left, nil)
	y, too := term.Eval(l.Right, nil)
	return len(term.ExprVars(l.Left)) == 0 && len(term.ExprVars(l.Right)) == 0 && fine && too && value.Holds(l.Rel, x, y)
}

func never(l api.Literal) bool {
	if l.Kind != api.LCmp {
		return false
	}
	if loneVar(l) != "" {
		return l.Rel == api.RelNe || l.Rel == api.RelLt || l.Rel == api.RelGt
	}
	if len(term.ExprVars(l.Left)) > 0 || len(term.ExprVars(l.Right)) > 0 {
		return false
	}
	x, fine := term.Eval(l.Left, nil)
	y, too := term.Eval(l.Right, nil)
	return !fine || !too || !value.Holds(l.Rel, x, y)
}

// slowTidy is P20.2, of a rule of use.
func slowTidy(r api.Rule) (api.Rule, bool) {
	out := api.Rule{Pred: r.Pred, Head: r.Head}
	for i, l := range r.Body {
		if never(l) {
			return api.Rule{}, false
		}
		twice := false
		for j, other := range r.Body {
			if l.Kind == api.LPos && other.Kind == api.LNot && showAtom(l.Atom) == showAtom(other.Atom) {
				return api.Rule{}, false
			}
			twice = twice || j < i && keyOf(l) == keyOf(other)
		}
		if !always(l) && !twice {
			out.Body = append(out.Body, l)
		}
	}
	return out, true
}

type mapping []api.Pair

func (m mapping) term(t api.Term) api.Term {
	for _, p := range m {
		if p.Var == t.Var {
			return p.Term
		}
	}
	return t
}

func (m mapping) expr(e api.Expr) api.Expr {
	out := api.Expr{Op: e.Op, Term: m.term(e.Term)}
	for _, kid := range e.Kids {
		out.Kids = append(out.Kids, m.expr(kid))
	}
	return out
}

// lands: the chapter's 'lands on'.
func (m mapping) lands(x, y api.Literal) bool {
	if x.Kind != y.Kind {
		return false
	}
	if x.Kind == api.LCmp {
		return x.Rel == y.Rel && same(m.expr(x.Left), plainExpr(y.Left)) && same(m.expr(x.Right), plainExpr(y.Right))
	}
	if x.Atom.Pred != y.Atom.Pred || len(x.Atom.Args) != len(y.Atom.Args) {
		return false
	}
	for i, t := range x.Atom.Args {
		if m.term(t) != y.Atom.Args[i] && !(x.Kind == api.LPos && t.Var == "_") {
			return false
		}
	}
	return true
}

// row answers the least row of numbers of a mapping.
func (m mapping) row(a, b api.Rule) ([]int, bool) {
	if a.Pred != b.Pred || len(a.Head) != len(b.Head) {
		return nil, false
	}
	for i, x := range a.Head {
		if m.term(x.Term) != b.Head[i].Term {
			return nil, false
		}
	}
	var out []int
	for _, x := range a.Body {
		at := slices.IndexFunc(b.Body, func(y api.Literal) bool { return m.lands(x, y) })
		if at < 0 {
			return nil, false
		}
		out = append(out, at)
	}
	return out, true
}

func hasAggregate(r api.Rule) bool {
	return slices.ContainsFunc(r.Head, func(a api.Arg) bool { return a.Agg != api.AggNone })
}

func exprTerms(e api.Expr) []api.Term {
	out := []api.Term{e.Term}
	for _, kid := range e.Kids {
		out = append(out, exprTerms(kid)...)
	}
	return out
}

// targets are the variables and values among the terms of a rule, each once.
func targets(r api.Rule) []api.Term {
	var all, out []api.Term
	for _, a := range r.Head {
		all = append(all, a.Term)
	}
	for _, l := range r.Body {
		all = append(all, l.Atom.Args...)
		all = append(all, exprTerms(l.Left)...)
		all = append(all, exprTerms(l.Right)...)
	}
	for _, t := range all {
		if t.Var != "_" && t != (api.Term{}) && !slices.Contains(out, t) {
			out = append(out, t)
		}
	}
	return out
}

// slowSubsumes is P20.3, of rules of use: all mappings that there are.
func slowSubsumes(a, b api.Rule) (mapping, bool) {
	names := term.RuleVars(a)
	if hasAggregate(a) || hasAggregate(b) {
		if !term.Alike(a, b) {
			return nil, false
		}
		var out mapping
		for i, name := range names {
			out = append(out, api.Pair{Var: name, Term: v(term.RuleVars(b)[i])})
		}
		return out, true
	}
	var best mapping
	var least []int
	found := false
	var try func(m mapping)
	try = func(m mapping) {
		if len(m) < len(names) {
			for _, t := range targets(b) {
				try(append(slices.Clone(m), api.Pair{Var: names[len(m)], Term: t}))
			}
			return
		}
		if row, ok := m.row(a, b); ok && (!found || slices.Compare(row, least) < 0) {
			best, least, found = m, row, true
		}
	}
	try(nil)
	return best, found
}

// slowReach are the predicates to which one comes.
func slowReach(rules []api.Rule, pred string) []string {
	out := []string{pred}
	for i := 0; i < len(out); i++ {
		for _, r := range rules {
			for _, l := range r.Body {
				if r.Pred == out[i] && l.Kind != api.LCmp && !slices.Contains(out, l.Atom.Pred) {
					out = append(out, l.Atom.Pred)
				}
			}
		}
	}
	return out
}

// slowPrune is P20.4, of rules and a query that it does not refuse: what is left behind step 2, and behind step 3.
func slowPrune(rules []api.Rule, q api.Atom) (second, third []api.Rule) {
	var first []api.Rule
	for _, r := range rules {
		if neat, ok := slowTidy(r); ok {
			first = append(first, neat)
		}
	}
	isAway := func(j int) bool {
		for i := range first {
			if i == j || first[i].Pred != first[j].Pred {
				continue
			}
			if _, ok := slowSubsumes(first[i], first[j]); !ok {
				continue
			}
			if _, back := slowSubsumes(first[j], first[i]); i < j || !back {
				return true
			}
		}
		return false
	}
	for j, r := range first {
		if !isAway(j) {
			second = append(second, r)
		}
	}
	names := slowReach(second, q.Pred)
	for _, r := range second {
		if slices.Contains(names, r.Pred) {
			third = append(third, r)
		}
	}
	return second, third
}

// P20.2: any rule of use, against the slow one.
func TestTidyOfAnything(t *testing.T) {
	d := dice(1)
	none, less, as := 0, 0, 0
	for range 20000 {
		r := d.variant(d.rule(d.pred(ruled()), 5))
		got, ok := subsume.Tidy(r)
		want, fine := slowTidy(r)
		if ok != fine || ok && showRules(got) != showRules(want) || !ok && !isZero(got) {
			t.Fatalf("Tidy(%s): %s, %v; want %s, %v", showRules(r), showRules(got), ok, showRules(want), fine)
		}
		switch {
		case !ok:
			none++
		case len(got.Body) < len(r.Body):
			less++
		default:
			as++
		}
	}
	if none < 800 || less < 2000 || as < 2000 {
		t.Errorf("%d gave nothing, %d became less, %d stayed", none, less, as)
	}
}

// P20.3: any two rules of use, against all mappings.
func TestSubsumesOfAnything(t *testing.T) {
	d := dice(2)
	yes, not, aggregates, several, jumped := 0, 0, 0, 0, 0
	for range 25000 {
		a := d.rule(d.pred(ruled()), 4)
		b := d.variant(a)
		switch d.below(8) {
		case 0:
			b = d.rule(d.pred(ruled()), 4)
		case 1:
			a, b = b, a
		}
		got, ok := subsume.Subsumes(a, b)
		want, fine := slowSubsumes(a, b)
		if ok != fine || showPairs(got) != showPairs(want) || len(got) != len(want) {
			t.Fatalf("Subsumes(%s, %s): %s, %v; want %s, %v", showRules(a), showRules(b), showPairs(got), ok, showPairs(want), fine)
		}
		switch {
		case !ok:
			not++
			continue
		case hasAggregate(a):
			aggregates++
			continue
		}
		yes++
		row, _ := want.row(a, b)
		for i, n := range row {
			if first := slices.IndexFunc(b.Body, func(l api.Literal) bool { return l.Kind == a.Body[i].Kind && l.Atom.Pred == a.Body[i].Atom.Pred }); n > first {
				jumped++
			}
		}
		if len(row) > 2 && len(got) > 1 {
			several++
		}
	}
	if yes < 5000 || not < 5000 || aggregates < 100 || several < 400 || jumped < 2000 {
		t.Errorf("%d subsumed, %d did not, %d had aggregates; %d had several literals and variables, %d landings were not the first of their name", yes, not, aggregates, several, jumped)
	}
}

// firstRow goes through the rows of numbers one behind the other, as P20.3 has them; m is what the literals ahead of the i-th give.
func firstRow(a, b api.Rule, i int, m mapping) (mapping, bool) {
	if i == len(a.Body) {
		return m, true
	}
next:
	for _, y := range b.Body {
		more := slices.Clone(m)
		for j, t := range a.Body[i].Atom.Args {
			u := y.Atom.Args[j]
			if t = more.term(t); strings.HasPrefix(t.Var, "X") {
				more = append(more, api.Pair{Var: t.Var, Term: u})
			} else if t != u {
				continue next
			}
		}
		if out, ok := firstRow(a, b, i+1, more); ok {
			return out, true
		}
	}
	return nil, false
}

// P20.3: longer bodies of one predicate, and more variables, against the rows of numbers one behind the other.
func TestLongBodiesOfAnything(t *testing.T) {
	d := dice(3)
	yes, not := 0, 0
	body := func(begin string, names, literals, columns int) []api.Literal {
		var out []api.Literal
		for range literals {
			l := pos("e")
			for range columns {
				l.Atom.Args = append(l.Atom.Args, v(begin+strconv.Itoa(d.below(names))))
			}
			out = append(out, l)
		}
		return out
	}
	for range 10000 {
		columns := 1 + d.below(3)
		a := api.Rule{Pred: "p", Body: body("X", 2+d.below(8), 1+d.below(7), columns)}
		b := api.Rule{Pred: "p", Body: body("B", 1+d.below(5), 1+d.below(8), columns)}
		var head mapping
		if x, y := a.Body[0].Atom.Args[0], b.Body[d.below(len(b.Body))].Atom.Args[0]; d.below(3) == 0 {
			a.Head, b.Head, head = []api.Arg{{Term: x}}, []api.Arg{{Term: y}}, mapping{{Var: x.Var, Term: y}}
		}
		m, fine := firstRow(a, b, 0, head)
		got, ok := subsume.Subsumes(a, b)
		var want mapping
		for _, name := range term.RuleVars(a) {
			if fine {
				want = append(want, api.Pair{Var: name, Term: m.term(v(name))})
			}
		}
		if ok != fine || showPairs(got) != showPairs(want) {
			t.Fatalf("Subsumes(%s, %s): %s, %v; want %s, %v", showRules(a), showRules(b), showPairs(got), ok, showPairs(want), fine)
		}
		if ok {
			yes++
		} else {
			not++
		}
	}
	if yes < 4000 || not < 2000 {
		t.Errorf("%d subsumed, %d did not", yes, not)
	}
}

// walk are the atoms of a way that ends in a ring of a length, in any order.
func (d *dice) walk(way, length int) []api.Literal {
	var out []api.Literal
	x := many(way + length)
	for i := range x[1:] {
		out = append(out, pos("e", x[i], x[i+1]))
	}
	return d.mixed(append(out, pos("e", x[len(x)-1], x[way])))
}

// places are the atoms of some rings, with ways between them, in any order.
func (d *dice) places(lengths ...int) []api.Literal {
	var out []api.Literal
	begin := 0
	for _, n := range lengths {
		for i := range n {
			out = append(out, pos("e", place(begin+i), place(begin+(i+1)%n)))
			if begin > 0 && d.below(3) == 0 {
				out = append(out, pos("e", place(d.below(begin)), place(begin+i)))
			}
		}
		begin += n
	}
	return d.mixed(out)
}

func place(i int) api.Term { return v("B" + strconv.Itoa(i)) }

func (d *dice) mixed(l []api.Literal) []api.Literal {
	for i := range l {
		j := d.below(i + 1)
		l[i], l[j] = l[j], l[i]
	}
	return l
}

// P20.3: ways and rings, where it is seen late that a landing is of no use, against the rows of numbers one behind the other.
func TestRingsOfAnything(t *testing.T) {
	d := dice(6)
	yes, not := 0, 0
	for range 2500 {
		a := api.Rule{Pred: "p", Body: d.walk(d.below(4), 3+d.below(3))}
		b := api.Rule{Pred: "p", Body: d.places(2, 2+d.below(2), 2+d.below(3))}
		m, fine := firstRow(a, b, 0, nil)
		got, ok := subsume.Subsumes(a, b)
		if ok != fine || len(got) != len(m) || slices.ContainsFunc(got, func(x api.Pair) bool { return m.term(v(x.Var)) != x.Term }) {
			t.Fatalf("Subsumes(%s, %s): %s, %v; want %s, %v", showRules(a), showRules(b), showPairs(got), ok, showPairs(m), fine)
		}
		if ok {
			yes++
		} else {
			not++
		}
	}
	if yes < 500 || not < 500 {
		t.Errorf("%d subsumed, %d did not", yes, not)
	}
}

// P20.4: any rules that may be used, and any query, against the slow one.
func TestPruneOfAnything(t *testing.T) {
	d := dice(4)
	needless, unreached, all := 0, 0, 0
	for range 6000 {
		rules, q := d.rules(8, 3), d.atom(d.pred(ruled()))
		if d.below(10) == 0 {
			q = d.atom(d.pred(given()))
		}
		got, err := subsume.Prune(rules, q)
		second, third := slowPrune(rules, q)
		if err != api.OK || showRules(got...) != showRules(third...) {
			t.Fatalf("Prune(%s, %s), %d:\n%s\nwant:\n%s", showRules(rules...), showAtom(q), err, showRules(got...), showRules(third...))
		}
		needless += len(rules) - len(second)
		unreached += len(second) - len(third)
		all += len(third)
	}
	if needless < 8000 || unreached < 8000 || all < 3000 {
		t.Errorf("%d were needless, %d not reached, %d left", needless, unreached, all)
	}
}

// broken turns one thing of a rule, so that it mostly is none as it may be, or may not be used.
func (d *dice) broken(r api.Rule) api.Rule {
	r.Head, r.Body = slices.Clone(r.Head), slices.Clone(r.Body)
	switch d.below(6) {
	case 0:
		r.Pred = d.one("", "P", "not", "p", "e")
	case 1:
		r.Head = append(r.Head, api.Arg{Agg: api.Agg(d.below(7) - 1), Term: d.term()})
	case 2:
		r.Body = append(r.Body, api.Literal{Kind: api.LitKind(d.below(6) - 1), Atom: d.atom(d.pred(given()))})
	case 3:
		r.Body = append(r.Body, not(d.one("e", "n", "p", "new", "E"), v(d.one("X", "U", "_", "u"))))
	case 4:
		r.Body = append(r.Body, cmp(d.expr(1), api.Rel(d.below(9)-1), api.Expr{Op: api.Op(d.below(13) - 1), Kids: []api.Expr{d.expr(1)}}))
	case 5:
		r.Body = append(r.Body, cmp(ex(v(d.one("U", "W", "X", "_"))), api.RelEq, ex(v(d.one("U", "W", "X", "_")))))
	}
	return r
}

// slowCode says the first error of Prune, by P20.4's words.
func slowCode(rules []api.Rule, q api.Atom) api.Errno {
	var preds []api.Pred
	for _, r := range rules {
		if term.CheckRule(r) != api.OK {
			return api.ErrTerm
		}
		if !isSafe(r) {
			return api.ErrSafe
		}
		preds = append(preds, api.Pred{Name: r.Pred, Arity: len(r.Head)})
		for _, l := range r.Body {
			if l.Kind != api.LCmp {
				preds = append(preds, api.Pred{Name: l.Atom.Pred, Arity: len(l.Atom.Args)})
			}
		}
	}
	for _, p := range preds {
		if slices.ContainsFunc(preds, func(x api.Pred) bool { return x.Name == p.Name && x.Arity != p.Arity }) {
			return api.ErrArity
		}
	}
	if term.CheckAtom(q) != api.OK {
		return api.ErrTerm
	}
	if slices.ContainsFunc(preds, func(x api.Pred) bool { return x.Name == q.Pred && x.Arity != len(q.Args) }) {
		return api.ErrArity
	}
	return api.OK
}

// P20.1, P20.4, R1: rules and queries of which some are none.
func TestWhatMayNotBe(t *testing.T) {
	d := dice(5)
	codes := map[api.Errno]int{}
	useless := 0
	for range 8000 {
		rules, q := d.rules(4, 3), d.atom(d.pred(ruled()))
		for i, r := range rules {
			if d.below(8) == 0 {
				rules[i] = d.broken(r)
			}
		}
		switch d.below(10) {
		case 0:
			q.Pred = d.one("P", "", "x", "e", "p", "t")
		case 1:
			q.Args = append(q.Args, d.term())
		case 2:
			q.Args = append(q.Args, api.Term{Var: d.one("x", "", "X")})
		}
		code := slowCode(rules, q)
		wantPruneCode(t, rules, q, code)
		codes[code]++
		for _, r := range rules {
			if term.CheckRule(r) != api.OK || !isSafe(r) {
				wantNoUse(t, r)
				useless++
			}
		}
	}
	for _, code := range []api.Errno{api.OK, api.ErrTerm, api.ErrSafe, api.ErrArity} {
		if codes[code] < 200 {
			t.Errorf("%d was told %d times alone", code, codes[code])
		}
	}
	if useless < 1000 {
		t.Errorf("%d rules were not of use alone", useless)
	}
}
