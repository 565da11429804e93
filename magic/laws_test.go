package magic_test

import (
	"fmt"
	"slices"
	"strings"
	"testing"

	"pedigree/adorn"
	"pedigree/api"
	"pedigree/check"
	"pedigree/depend"
	"pedigree/magic"
	"pedigree/model"
	"pedigree/semi"
	"pedigree/term"
	"pedigree/value"
)

func mustRun(t *testing.T, rules []api.Rule, l []api.Fact) []api.Fact {
	t.Helper()
	out, _, err := semi.Run(rules, l)
	if err != api.OK {
		t.Fatalf("Run(%s, %s): %d", showRules(rules), showFacts(l), err)
	}
	return out
}

// only are the facts whose names begin so.
func only(l []api.Fact, begin string) []api.Fact {
	return slices.DeleteFunc(slices.Clone(l), func(f api.Fact) bool { return !strings.HasPrefix(f.Pred, begin) })
}

// P19.3: what comes out may be used, has one arity each, is plain, and can be worked with over the seeds and any facts.
func TestTheyCanBeWorkedWith(t *testing.T) {
	d := dice(11)
	nots, equations := 0, 0
	for range 2000 {
		rules, q, l := d.plain(8, 6), d.query(), d.facts(12)
		g := mustRewrite(t, rules, q)
		for _, r := range g.Rules {
			if check.Rule(r) != api.OK || check.Makes(r) {
				t.Fatalf("Rewrite(%s, %s): %s", showRules(rules), showAtom(q), showRules([]api.Rule{r}))
			}
			for _, lit := range r.Body {
				if lit.Kind == api.LNot {
					nots++
				}
				if lit.Rel == api.RelEq {
					equations++
				}
			}
		}
		if _, err := check.Preds(api.Program{Rules: g.Rules}, slices.Concat(l, g.Seeds)); err != api.OK || !depend.Plain(g.Rules) {
			t.Fatalf("Rewrite(%s, %s) cannot be worked with, %d:\n%s", showRules(rules), showAtom(q), err, told(g))
		}
		mustRun(t, g.Rules, slices.Concat(l, g.Seeds))
	}
	if nots < 1000 || equations < 1000 {
		t.Errorf("%d nots, %d equations alone", nots, equations)
	}
}

// P19.4: within the limits of check.Input ErrSize does not come: the longest names, the most columns and literals, all patterns, as many rules as may be.
func TestWithinTheLimits(t *testing.T) {
	name := func(c string) string { return strings.Repeat(c, api.MaxName) }
	all := many(api.MaxArity)
	var rules []api.Rule
	for i := range all {
		args := slices.Clone(all)
		args[i] = api.Term{Val: num(int64(i))}
		body := slices.Repeat([]api.Literal{pos(name("e"), all...)}, api.MaxLits-1)
		rules = append(rules, api.Rule{Pred: name("p"), Head: head(all...), Body: slices.Insert(body, 0, pos(name("p"), args...))})
	}
	rules = append(rules, api.Rule{Pred: name("p"), Head: head(all...), Body: slices.Repeat([]api.Literal{pos(name("e"), all...)}, api.MaxLits)})
	for len(rules) < api.MaxRules {
		rules = append(rules, api.Rule{Pred: name("r"), Head: head(all...), Body: slices.Repeat([]api.Literal{pos(name("r"), all...)}, api.MaxLits)})
	}
	for _, q := range []api.Atom{atom(name("p"), all...), atom(name("r"), all...), atom(name("e"), all...)} {
		if refusal := check.Input(api.Program{Rules: rules}, nil, q); (refusal != api.Refusal{}) {
			t.Fatalf("Input: %v", refusal)
		}
		g := mustRewrite(t, rules, q)
		for _, r := range g.Rules {
			if term.CheckRule(r) != api.OK {
				t.Fatalf("%v is no rule", r)
			}
		}
		if q.Pred == name("p") && len(g.Rules) != 256*(8*3+2) {
			t.Errorf("%d rules", len(g.Rules))
		}
	}
}

// slowAnswers are those of a query over facts, by term.Match alone.
func slowAnswers(q api.Atom, l []api.Fact) [][]api.Value {
	var out [][]api.Value
	for _, f := range l {
		if _, ok := term.Match(q, f); ok && !slices.ContainsFunc(out, func(x []api.Value) bool { return slices.Equal(x, f.Args) }) {
			out = append(out, f.Args)
		}
	}
	slices.SortFunc(out, value.CompareTuples)
	return out
}

// P19.5, P19.6: the answers and the facts of the run; the answers are those over the model.
func TestOneMeaning(t *testing.T) {
	d := dice(12)
	answered, fewer, given := 0, 0, 0
	for range 2000 {
		rules, q, l := d.plain(8, 5), d.query(), d.facts(24)
		answers, own := mustSolve(t, rules, l, q)
		g := mustRewrite(t, rules, q)
		run := mustRun(t, g.Rules, slices.Concat(l, g.Seeds))
		if showTuples(answers) != showTuples(slowAnswers(g.Query, run)) || showFacts(own) != showFacts(only(run, "q_")) {
			t.Fatalf("Solve(%s, %s, %s):\n%s%s", showRules(rules), showFacts(l), showAtom(q), showTuples(answers), showFacts(own))
		}
		all := mustRun(t, rules, l)
		if want := showTuples(slowAnswers(q, all)); showTuples(answers) != want {
			t.Fatalf("Solve(%s, %s, %s):\n%swant:\n%s", showRules(rules), showFacts(l), showAtom(q), showTuples(answers), want)
		}
		if showTuples(answers) != showTuples(model.Answers(q, all)) {
			t.Fatalf("Solve(%s, %s, %s) and model.Answers differ", showRules(rules), showFacts(l), showAtom(q))
		}
		if len(answers) > 0 {
			answered++
		}
		if len(g.Rules) == 0 {
			given++
		} else if len(only(run, "q_b"))+len(only(run, "q_f"))+len(only(run, "q__")) < len(all)-len(value.Facts(l)) {
			fewer++
		}
	}
	if answered < 500 || fewer < 200 || given < 100 {
		t.Errorf("%d had answers, %d less to work out, %d a query of given facts", answered, fewer, given)
	}
}

func slowPattern(a api.Atom, known []string) string {
	out := ""
	for _, t := range a.Args {
		switch {
		case t.Var == "":
			out += "b"
		case t.Var != "_" && slices.Contains(known, t.Var):
			out += "b"
		default:
			out += "f"
		}
	}
	return out
}

// slowNext is the number of the literal that is asked next; taken are those that were.
func slowNext(t *testing.T, r api.Rule, taken []int, known []string) int {
	t.Helper()
	isLeft := func(i int) bool { return !slices.Contains(taken, i) }
	for i, l := range r.Body {
		if isLeft(i) && (l.Kind == api.LNot || l.Kind == api.LCmp) && areAmong(term.LiteralVars(l), known) {
			return i
		}
	}
	for i, l := range r.Body {
		if isLeft(i) && l.Kind == api.LPos {
			return i
		}
	}
	for i, l := range r.Body {
		if !isLeft(i) || l.Kind != api.LCmp || l.Rel != api.RelEq {
			continue
		}
		for _, side := range [][2]api.Expr{{l.Left, l.Right}, {l.Right, l.Left}} {
			if side[0].Op == api.OpTerm && side[0].Term.Var != "" && !slices.Contains(known, side[0].Term.Var) && areAmong(term.ExprVars(side[1]), known) {
				return i
			}
		}
	}
	t.Fatalf("%s with %v known: nothing can be asked behind %v", showRules([]api.Rule{r}), known, taken)
	return 0
}

// key is a pair with values, as its magic predicate's fact.
func key(pair api.Adorned, l []api.Value) string {
	return showFacts([]api.Fact{{Pred: "q_m_" + pair.Pattern + "_" + pair.Pred, Args: l}})
}

// known are the values of a row where the pattern has a b.
func known(pattern string, l []api.Value) []api.Value {
	var out []api.Value
	for i, c := range pattern {
		if c == 'b' {
			out = append(out, l[i])
		}
	}
	return out
}

type assignment []api.Bind

func (a assignment) of(x api.Term) (api.Value, bool) {
	if x.Var == "" {
		return x.Val, true
	}
	at := slices.IndexFunc(a, func(b api.Bind) bool { return b.Var == x.Var })
	if at < 0 {
		return api.Value{}, false
	}
	return a[at].Val, true
}

// with answers the assignment under which terms are values; blanks are any.
func (a assignment) with(terms []api.Term, l []api.Value) (assignment, bool) {
	out := slices.Clone(a)
	for i, x := range terms {
		if x.Var == "_" {
			continue
		}
		old, ok := out.of(x)
		if ok && old != l[i] {
			return nil, false
		}
		if !ok {
			out = append(out, api.Bind{Var: x.Var, Val: l[i]})
		}
	}
	return out, true
}

// slowHolds are the assignments, of those of the variables that are known ahead of it, and of its own, under which a literal holds.
func slowHolds(l api.Literal, some []assignment, all []api.Fact) []assignment {
	var out []assignment
	for _, a := range some {
		if l.Kind == api.LCmp {
			left, fine := term.Eval(l.Left, a)
			right, too := term.Eval(l.Right, a)
			if fine && too && value.Holds(l.Rel, left, right) {
				out = append(out, a)
			}
			continue
		}
		found := false
		for _, f := range all {
			if f.Pred != l.Atom.Pred {
				continue
			}
			if more, ok := a.with(l.Atom.Args, f.Args); ok {
				found = true
				if l.Kind == api.LPos {
					out = append(out, more)
				}
			}
		}
		if l.Kind == api.LNot && !found {
			out = append(out, a)
		}
	}
	return distinct(out)
}

func distinct(l []assignment) []assignment {
	var out []assignment
	for _, a := range l {
		if !slices.ContainsFunc(out, func(x assignment) bool { return slices.Equal(x, a) }) {
			out = append(out, a)
		}
	}
	return out
}

// goal is a pair with values.
type goal struct {
	pair api.Adorned
	l    []api.Value
}

// slowAsked are the goals to which one comes by one rule of its predicate.
func slowAsked(t *testing.T, rules []api.Rule, r api.Rule, all []api.Fact, g goal) []goal {
	t.Helper()
	var terms []api.Term
	for i, c := range g.pair.Pattern {
		if c == 'b' {
			terms = append(terms, r.Head[i].Term)
		}
	}
	first, ok := assignment(nil).with(terms, g.l)
	if !ok {
		return nil
	}
	var out []goal
	names, some := term.AtomVars(atom("h", terms...)), []assignment{first}
	var taken []int
	for range r.Body {
		i := slowNext(t, r, taken, names)
		l := r.Body[i]
		if l.Kind == api.LPos && hasRules(rules, l.Atom.Pred) {
			pair := api.Adorned{Pred: l.Atom.Pred, Pattern: slowPattern(l.Atom, names)}
			for _, a := range some {
				var args []api.Value
				for j, c := range pair.Pattern {
					if c == 'b' {
						x, _ := a.of(l.Atom.Args[j])
						args = append(args, x)
					}
				}
				out = append(out, goal{pair, args})
			}
		}
		if l.Kind == api.LCmp && !areAmong(term.LiteralVars(l), names) {
			return out // an equation that gives a variable: no atom is left
		}
		some = slowHolds(l, some, all)
		taken, names = append(taken, i), append(names, term.LiteralVars(l)...)
	}
	return out
}

// slowGoals are the goals of rules, facts and a query, by the chapter's words, over the model.
func slowGoals(t *testing.T, rules []api.Rule, all []api.Fact, q api.Atom) []string {
	t.Helper()
	if !hasRules(rules, q.Pred) {
		return nil
	}
	first := goal{pair: api.Adorned{Pred: q.Pred, Pattern: slowPattern(q, nil)}}
	for _, x := range q.Args {
		if x.Var == "" {
			first.l = append(first.l, x.Val)
		}
	}
	work, out := []goal{first}, []string{key(first.pair, first.l)}
	for len(work) > 0 {
		g := work[0]
		work = work[1:]
		for _, r := range rules {
			if r.Pred != g.pair.Pred {
				continue
			}
			for _, more := range slowAsked(t, rules, r, all, g) {
				if k := key(more.pair, more.l); !slices.Contains(out, k) {
					work, out = append(work, more), append(out, k)
				}
			}
		}
	}
	slices.Sort(out)
	return out
}

// P19.7, P0.2: what is worked out of a pair holds and is asked; of what is asked nothing is missing; what is asked are just the goals.
func TestOnlyWhatIsAsked(t *testing.T) {
	d := dice(13)
	most, held, unlike := 0, 0, 0
	for range 2500 {
		rules, q, l := d.plain(8, 5), d.query(), d.facts(24)
		_, own := mustSolve(t, rules, l, q)
		all := mustRun(t, rules, l)
		_, pairs, _ := adorn.Adorn(rules, q)
		var asked []string
		for _, f := range only(own, "q_m_") {
			asked = append(asked, showFacts([]api.Fact{f}))
		}
		slices.Sort(asked)
		if goals := slowGoals(t, rules, all, q); !slices.Equal(asked, goals) {
			t.Fatalf("Solve(%s, %s, %s) asks:\n%v\nthe goals:\n%v", showRules(rules), showFacts(l), showAtom(q), asked, goals)
		}
		for _, pair := range pairs {
			got, want := "", ""
			for _, f := range own {
				if f.Pred == adorn.Name(pair) {
					got += showFacts([]api.Fact{{Pred: pair.Pred, Args: f.Args}})
				}
			}
			for _, f := range all {
				if f.Pred == pair.Pred && slices.Contains(asked, key(pair, known(pair.Pattern, f.Args))) {
					want += showFacts([]api.Fact{f})
					held++
				} else if f.Pred == pair.Pred {
					unlike++
				}
			}
			if got != want {
				t.Fatalf("Solve(%s, %s, %s): of %v:\n%swant:\n%s", showRules(rules), showFacts(l), showAtom(q), pair, got, want)
			}
		}
		most = max(most, len(asked))
	}
	if most < 20 || held < 1500 || unlike < 1500 {
		t.Errorf("%d goals at most, %d facts were asked, %d not", most, held, unlike)
	}
}

// R6, P0.4: facts in any order, and twice; rules in another order have the same answers and goals.
func TestOrderIsNothing(t *testing.T) {
	d := dice(14)
	for range 700 {
		rules, q, l := d.plain(8, 5), d.query(), d.facts(24)
		answers, own := mustSolve(t, rules, l, q)
		turned := slices.Concat(l, l)
		slices.Reverse(turned)
		again, same := mustSolve(t, rules, turned, q)
		if showTuples(again) != showTuples(answers) || showFacts(same) != showFacts(own) {
			t.Fatalf("Solve(%s, %s, %s) hangs on the facts' order", showRules(rules), showFacts(l), showAtom(q))
		}
		other := slices.Concat(rules, rules)
		slices.Reverse(other)
		again, same = mustSolve(t, other, l, q)
		if showTuples(again) != showTuples(answers) || showFacts(only(same, "q_m_")) != showFacts(only(own, "q_m_")) {
			t.Fatalf("Solve(%s, %s, %s) hangs on the rules' order", showRules(rules), showFacts(l), showAtom(q))
		}
	}
}

// cells are where the texts of all cells of lists stand, spare room too: two lists that share memory have one in common.
type cells map[*string]int

func (c cells) exprs(l []api.Expr) {
	l = l[:cap(l)]
	for i := range l {
		c[&l[i].Term.Var]++
		c.exprs(l[i].Kids)
	}
}

func (c cells) terms(l []api.Term) {
	l = l[:cap(l)]
	for i := range l {
		c[&l[i].Var]++
	}
}

func (c cells) rules(l []api.Rule) {
	l = l[:cap(l)]
	for i := range l {
		c[&l[i].Pred]++
		args := l[i].Head[:cap(l[i].Head)]
		for j := range args {
			c[&args[j].Term.Var]++
		}
		body := l[i].Body[:cap(l[i].Body)]
		for j := range body {
			c[&body[j].Atom.Pred]++
			c.terms(body[j].Atom.Args)
			c.exprs(body[j].Left.Kids)
			c.exprs(body[j].Right.Kids)
		}
	}
}

func (c cells) values(l []api.Value) {
	l = l[:cap(l)]
	for i := range l {
		c[&l[i].Text]++
	}
}

func (c cells) facts(l []api.Fact) {
	l = l[:cap(l)]
	for i := range l {
		c[&l[i].Pred]++
		c.values(l[i].Args)
	}
}

// isOwn: does no cell stand in two lists?
func (c cells) isOwn() bool {
	for _, n := range c {
		if n > 1 {
			return false
		}
	}
	return true
}

// dirty answers a copy of a list with room behind it that must stay as it is.
func dirty[T any](l []T, spare T) []T {
	out := append(make([]T, 0, len(l)+3), l...)
	room := out[len(out):cap(out)]
	for i := range room {
		room[i] = spare
	}
	return out
}

func dirtyExpr(e api.Expr) api.Expr {
	e.Kids = dirty(e.Kids, ex(v("Spare")))
	for i := range e.Kids {
		e.Kids[i] = dirtyExpr(e.Kids[i])
	}
	return e
}

func dirtyRules(l []api.Rule) []api.Rule {
	out := dirty(l, api.Rule{Pred: "spare"})
	for i, r := range out {
		out[i].Head = dirty(r.Head, api.Arg{Term: v("Spare")})
		out[i].Body = dirty(r.Body, pos("spare"))
		for j, lit := range out[i].Body {
			lit.Atom.Args = dirty(lit.Atom.Args, v("Spare"))
			lit.Left, lit.Right = dirtyExpr(lit.Left), dirtyExpr(lit.Right)
			out[i].Body[j] = lit
		}
	}
	return out
}

func wholeExpr(e api.Expr) string {
	out := fmt.Sprint(e.Kids[:cap(e.Kids)])
	for _, kid := range e.Kids {
		out += wholeExpr(kid)
	}
	return out
}

// whole writes rules with their spare room.
func whole(l []api.Rule) string {
	out := fmt.Sprint(l[:cap(l)])
	for _, r := range l {
		out += "\n" + fmt.Sprint(r.Head[:cap(r.Head)]) + fmt.Sprint(r.Body[:cap(r.Body)])
		for _, lit := range r.Body {
			out += fmt.Sprint(lit.Atom.Args[:cap(lit.Atom.Args)]) + wholeExpr(lit.Left) + wholeExpr(lit.Right)
		}
	}
	return out
}

// R4: what is handed in stays as it was, its spare room too; no list of an answer shares memory with another one, of another answer or of what was handed in.
func TestMemoryOfItsOwn(t *testing.T) {
	d := dice(15)
	kids, told := 0, 0
	for range 1000 {
		rules, q, l := dirtyRules(d.plain(7, 5)), d.query(), dirty(d.facts(12), api.Fact{Pred: "spare"})
		q.Args = dirty(q.Args, v("Spare"))
		for i := range l {
			l[i].Args = dirty(l[i].Args, num(99))
		}
		before := whole(rules) + fmt.Sprint(q.Args[:cap(q.Args)]) + wholeFacts(l)
		all := cells{}
		all.rules(rules)
		all.terms(q.Args)
		all.facts(l)
		for range 2 {
			g := mustRewrite(t, rules, q)
			all.rules(g.Rules)
			all.terms(g.Query.Args)
			all.facts(g.Seeds)
			for _, r := range g.Rules {
				for _, l := range r.Body {
					kids += len(l.Left.Kids) + len(l.Right.Kids)
				}
			}
			answers, own := mustSolve(t, rules, l, q)
			all.facts(own)
			for _, tuple := range answers[:cap(answers)] {
				all.values(tuple)
			}
			told += len(answers) + len(own)
		}
		if !all.isOwn() {
			t.Fatalf("%s, %s, %s: two lists share memory", showRules(rules), showFacts(l), showAtom(q))
		}
		if whole(rules)+fmt.Sprint(q.Args[:cap(q.Args)])+wholeFacts(l) != before {
			t.Fatalf("%s, %s, %s: what was handed in is turned", showRules(rules), showFacts(l), showAtom(q))
		}
	}
	if kids < 400 || told < 3000 {
		t.Errorf("%d kids, %d facts alone", kids, told)
	}
}

func wholeFacts(l []api.Fact) string {
	out := fmt.Sprint(l[:cap(l)])
	for _, f := range l {
		out += fmt.Sprint(f.Args[:cap(f.Args)])
	}
	return out
}

// R5: the same call twice.
func TestTwice(t *testing.T) {
	d := dice(16)
	for range 300 {
		rules, q, l := d.plain(9, 5), d.query(), d.facts(12)
		want := told(mustRewrite(t, rules, q))
		answers, own := mustSolve(t, rules, l, q)
		for range 3 {
			if got := told(mustRewrite(t, rules, q)); got != want {
				t.Fatalf("Rewrite(%s, %s):\n%s\nand then:\n%s", showRules(rules), showAtom(q), want, got)
			}
			again, same, err := magic.Solve(rules, l, q)
			if err != api.OK || showTuples(again) != showTuples(answers) || showFacts(same) != showFacts(own) {
				t.Fatalf("Solve(%s, %s, %s) answers otherwise", showRules(rules), showFacts(l), showAtom(q))
			}
		}
	}
}
