package table_test

import (
	"fmt"
	"slices"
	"strings"
	"testing"

	"pedigree/api"
	"pedigree/magic"
	"pedigree/model"
	"pedigree/semi"
	"pedigree/table"
	"pedigree/term"
	"pedigree/value"
)

func mustRun(t *testing.T, rules []api.Rule, l []api.Fact) []api.Fact {
	t.Helper()
	out, _, err := semi.Run(rules, l)
	if err != api.OK {
		t.Fatalf("Run(%s, %s): %d", showRules(rules), showFacts(l), err)
	}
	return out
}

// slowAnswers are those of a query over facts, by term.Match alone.
func slowAnswers(q api.Atom, l []api.Fact) [][]api.Value {
	var out [][]api.Value
	for _, f := range l {
		if _, ok := term.Match(q, f); ok && !slices.ContainsFunc(out, func(x []api.Value) bool { return slices.Equal(x, f.Args) }) {
			out = append(out, f.Args)
		}
	}
	slices.SortFunc(out, value.CompareTuples)
	return out
}

func slowPattern(a api.Atom, known []string) string {
	out := ""
	for _, t := range a.Args {
		switch {
		case t.Var == "":
			out += "b"
		case t.Var != "_" && slices.Contains(known, t.Var):
			out += "b"
		default:
			out += "f"
		}
	}
	return out
}

// slowNext is the number of the literal that is asked next; taken are those that were.
func slowNext(t *testing.T, r api.Rule, taken []int, known []string) int {
	t.Helper()
	isLeft := func(i int) bool { return !slices.Contains(taken, i) }
	for i, l := range r.Body {
		if isLeft(i) && (l.Kind == api.LNot || l.Kind == api.LCmp) && areAmong(term.LiteralVars(l), known) {
			return i
		}
	}
	for i, l := range r.Body {
		if isLeft(i) && l.Kind == api.LPos {
			return i
		}
	}
	for i, l := range r.Body {
		if !isLeft(i) || l.Kind != api.LCmp || l.Rel != api.RelEq {
			continue
		}
		for _, side := range [][2]api.Expr{{l.Left, l.Right}, {l.Right, l.Left}} {
			if side[0].Op == api.OpTerm && side[0].Term.Var != "" && !slices.Contains(known, side[0].Term.Var) && areAmong(term.ExprVars(side[1]), known) {
				return i
			}
		}
	}
	t.Fatalf("%s with %v known: nothing can be asked behind %v", showRules([]api.Rule{r}), known, taken)
	return 0
}

type assignment []api.Bind

func (a assignment) of(x api.Term) (api.Value, bool) {
	if x.Var == "" {
		return x.Val, true
	}
	at := slices.IndexFunc(a, func(b api.Bind) bool { return b.Var == x.Var })
	if at < 0 {
		return api.Value{}, false
	}
	return a[at].Val, true
}

// with answers the assignment under which terms are values; blanks are any.
func (a assignment) with(terms []api.Term, l []api.Value) (assignment, bool) {
	out := slices.Clone(a)
	for i, x := range terms {
		if x.Var == "_" {
			continue
		}
		old, ok := out.of(x)
		if ok && old != l[i] {
			return nil, false
		}
		if !ok {
			out = append(out, api.Bind{Var: x.Var, Val: l[i]})
		}
	}
	return out, true
}

// slowHolds are the assignments, of those of the variables that are known ahead of it, and of its own, under which a literal holds.
func slowHolds(l api.Literal, some []assignment, all []api.Fact) []assignment {
	var out []assignment
	for _, a := range some {
		if l.Kind == api.LCmp {
			left, fine := term.Eval(l.Left, a)
			right, too := term.Eval(l.Right, a)
			if fine && too && value.Holds(l.Rel, left, right) {
				out = append(out, a)
			}
			continue
		}
		found := false
		for _, f := range all {
			if f.Pred != l.Atom.Pred {
				continue
			}
			if more, ok := a.with(l.Atom.Args, f.Args); ok {
				found = true
				if l.Kind == api.LPos {
					out = append(out, more)
				}
			}
		}
		if l.Kind == api.LNot && !found {
			out = append(out, a)
		}
	}
	return distinct(out)
}

func distinct(l []assignment) []assignment {
	var out []assignment
	for _, a := range l {
		if !slices.ContainsFunc(out, func(x assignment) bool { return slices.Equal(x, a) }) {
			out = append(out, a)
		}
	}
	return out
}

// goal is a pair with values.
type goal struct {
	pair api.Adorned
	l    []api.Value
}

// slowAsked are the goals to which one comes by one rule of its predicate.
func slowAsked(t *testing.T, rules []api.Rule, r api.Rule, all []api.Fact, g goal) []goal {
	t.Helper()
	var terms []api.Term
	for i, c := range g.pair.Pattern {
		if c == 'b' {
			terms = append(terms, r.Head[i].Term)
		}
	}
	first, ok := assignment(nil).with(terms, g.l)
	if !ok {
		return nil
	}
	var out []goal
	names, some := term.AtomVars(atom("h", terms...)), []assignment{first}
	var taken []int
	for range r.Body {
		i := slowNext(t, r, taken, names)
		l := r.Body[i]
		if l.Kind == api.LPos && hasRules(rules, l.Atom.Pred) {
			pair := api.Adorned{Pred: l.Atom.Pred, Pattern: slowPattern(l.Atom, names)}
			for _, a := range some {
				var args []api.Value
				for j, c := range pair.Pattern {
					if c == 'b' {
						x, _ := a.of(l.Atom.Args[j])
						args = append(args, x)
					}
				}
				out = append(out, goal{pair, args})
			}
		}
		if l.Kind == api.LCmp && !areAmong(term.LiteralVars(l), names) {
			return out // an equation that gives a variable: no atom is left
		}
		some = slowHolds(l, some, all)
		taken, names = append(taken, i), append(names, term.LiteralVars(l)...)
	}
	return out
}

// slowGoals are the goals of rules, facts and a query, by chapter 19's words, over the model.
func slowGoals(t *testing.T, rules []api.Rule, all []api.Fact, q api.Atom) []goal {
	t.Helper()
	if !hasRules(rules, q.Pred) {
		return nil
	}
	first := goal{pair: api.Adorned{Pred: q.Pred, Pattern: slowPattern(q, nil)}}
	for _, x := range q.Args {
		if x.Var == "" {
			first.l = append(first.l, x.Val)
		}
	}
	out := []goal{first}
	for i := 0; i < len(out); i++ {
		for _, r := range rules {
			if r.Pred != out[i].pair.Pred {
				continue
			}
			for _, more := range slowAsked(t, rules, r, all, out[i]) {
				if !slices.ContainsFunc(out, more.is) {
					out = append(out, more)
				}
			}
		}
	}
	return out
}

func (g goal) is(x goal) bool { return g.pair == x.pair && slices.Equal(g.l, x.l) }

// isBelow: is the goal told ahead of another?
func (g goal) isBelow(x goal) bool {
	if g.pair.Pred != x.pair.Pred {
		return g.pair.Pred < x.pair.Pred
	}
	if g.pair.Pattern != x.pair.Pattern {
		return g.pair.Pattern < x.pair.Pattern
	}
	return value.CompareTuples(g.l, x.l) < 0
}

// table is the goal's, by the chapter's words.
func (g goal) table(all []api.Fact) api.Table {
	out := api.Table{Goal: api.Atom{Pred: g.pair.Pred}}
	free, known := 0, g.l
	for _, c := range g.pair.Pattern {
		if c == 'b' {
			out.Goal.Args = append(out.Goal.Args, api.Term{Val: known[0]})
			known = known[1:]
		} else {
			out.Goal.Args = append(out.Goal.Args, v(fmt.Sprint("V", free)))
			free++
		}
	}
	for _, f := range all {
		if f.Pred == g.pair.Pred && slices.Equal(atB(g.pair.Pattern, f.Args), g.l) {
			out.Answers = append(out.Answers, f.Args)
		}
	}
	return out
}

// atB are the values of a tuple where the pattern has a b.
func atB(pattern string, l []api.Value) []api.Value {
	var out []api.Value
	for i, c := range pattern {
		if c == 'b' {
			out = append(out, l[i])
		}
	}
	return out
}

// goalOf is the goal that a table is for.
func goalOf(x api.Table) goal {
	out := goal{pair: api.Adorned{Pred: x.Goal.Pred, Pattern: slowPattern(x.Goal, nil)}}
	for _, a := range x.Goal.Args {
		if a.Var == "" {
			out.l = append(out.l, a.Val)
		}
	}
	return out
}

// slowSolve is P22.2.
func slowSolve(t *testing.T, rules []api.Rule, l []api.Fact, q api.Atom) ([][]api.Value, []api.Table) {
	t.Helper()
	all := mustRun(t, rules, l)
	goals := slowGoals(t, rules, all, q)
	slices.SortFunc(goals, func(a, b goal) int {
		if a.isBelow(b) {
			return -1
		}
		return 1
	})
	var out []api.Table
	for _, g := range goals {
		out = append(out, g.table(all))
	}
	return slowAnswers(q, all), out
}

func wantSame(t *testing.T, rules []api.Rule, l []api.Fact, q api.Atom) []api.Table {
	t.Helper()
	answers, tables := mustSolve(t, rules, l, q)
	right, wanted := slowSolve(t, rules, l, q)
	if showTuples("t", answers) != showTuples("t", right) {
		t.Fatalf("%s: %s; want %s", called(rules, l, q), showTuples("t", answers), showTuples("t", right))
	}
	if showTables(tables) != showTables(wanted) {
		t.Fatalf("%s: the tables:\n%swant:\n%s", called(rules, l, q), showTables(tables), showTables(wanted))
	}
	return tables
}

// P22.2: any plain rules, facts and query, against the slow one.
func TestSolveOfAnything(t *testing.T) {
	d := dice(21)
	most, answered, none, wide := 0, 0, 0, 0
	for range 6000 {
		rules, q, l := d.plain(8, 5), d.query(), d.facts(40)
		tables := wantSame(t, rules, l, q)
		most = max(most, len(tables))
		for _, x := range tables {
			if len(x.Answers) > 0 {
				answered++
			} else {
				none++
			}
			if len(x.Answers) > 5 {
				wide++
			}
		}
	}
	if most < 30 || answered < 4000 || none < 3500 || wide < 200 {
		t.Errorf("%d goals at most; %d had answers, %d many, %d none", most, answered, wide, none)
	}
}

// P22.2: rules that go round and long bodies, over many facts.
func TestSolveOfMuch(t *testing.T) {
	d := dice(22)
	most := 0
	for range 400 {
		rules, q, l := d.plain(12, 8), d.query(), d.facts(40)
		most = max(most, len(wantSame(t, rules, l, q)))
	}
	if most < 30 {
		t.Errorf("%d goals at most", most)
	}
}

// P22.4: the answers and the goals are those from below, and so is what is known of them.
func TestFromAboveAsFromBelow(t *testing.T) {
	d := dice(23)
	facts := 0
	for range 3000 {
		rules, q, l := d.plain(8, 5), d.query(), d.facts(36)
		answers, tables := mustSolve(t, rules, l, q)
		below, own, err := magic.Solve(rules, l, q)
		if err != api.OK || showTuples("t", answers) != showTuples("t", below) {
			t.Fatalf("%s: %s; from below %s, %d", called(rules, l, q), showTuples("t", answers), showTuples("t", below), err)
		}
		var asked []api.Fact
		for _, x := range tables {
			g := goalOf(x)
			asked = append(asked, api.Fact{Pred: "q_m_" + g.pair.Pattern + "_" + g.pair.Pred, Args: g.l})
			var got [][]api.Value
			for _, f := range own {
				if f.Pred == "q_"+g.pair.Pattern+"_"+g.pair.Pred && slices.Equal(atB(g.pair.Pattern, f.Args), g.l) {
					got = append(got, f.Args)
				}
			}
			if showTuples("t", got) != showTuples("t", x.Answers) {
				t.Fatalf("%s: of %s %s; from below %s", called(rules, l, q), showAtom(x.Goal), showTuples("t", x.Answers), showTuples("t", got))
			}
			facts += len(got)
		}
		slices.SortFunc(asked, value.CompareFacts)
		magics := slices.DeleteFunc(own, func(f api.Fact) bool { return !strings.HasPrefix(f.Pred, "q_m_") })
		if showFacts(asked) != showFacts(magics) {
			t.Fatalf("%s asks:\n%sfrom below:\n%s", called(rules, l, q), showFacts(asked), showFacts(magics))
		}
	}
	if facts < 3500 {
		t.Errorf("%d facts alone", facts)
	}
}

// P22.4, P0.1: where a body is too long for the rules from below, the answers are those over the model.
func TestWhereBelowIsTooLong(t *testing.T) {
	d := dice(24)
	long := 0
	for long < 60 {
		rules, q, l := d.plain(4, 4), d.query(), d.facts(16)
		for i := range rules {
			for len(rules[i].Body) < api.MaxBody {
				rules[i].Body = append(rules[i].Body, cmp(ex(n(1)), api.RelLt, ex(n(2))))
			}
		}
		if _, _, err := magic.Solve(rules, l, q); err != api.ErrSize {
			continue
		}
		long++
		answers, _ := mustSolve(t, rules, l, q)
		if all := mustRun(t, rules, l); showTuples("t", answers) != showTuples("t", model.Answers(q, all)) {
			t.Fatalf("%s: %s", called(rules, l, q), showTuples("t", answers))
		}
		wantSame(t, rules, l, q)
	}
}

// isReasoned: does a rule give the tuple by a solution over the model in which each atom whose predicate has rules stands in some table?
func isReasoned(rules []api.Rule, all []api.Fact, tables []api.Table, pred string, tuple []api.Value) bool {
	var told []api.Fact
	for _, f := range all {
		stands := func(x api.Table) bool {
			return x.Goal.Pred == f.Pred && slices.ContainsFunc(x.Answers, func(l []api.Value) bool { return slices.Equal(l, f.Args) })
		}
		if !hasRules(rules, f.Pred) || slices.ContainsFunc(tables, stands) {
			told = append(told, f)
		}
	}
	return slices.ContainsFunc(rules, func(r api.Rule) bool {
		gives, _, err := semi.Run([]api.Rule{{Pred: "given", Head: r.Head, Body: r.Body}}, told)
		return r.Pred == pred && err == api.OK && slices.ContainsFunc(gives, func(f api.Fact) bool { return f.Pred == "given" && slices.Equal(f.Args, tuple) })
	})
}

// P22.5: each goal but the first is asked by a rule of a goal; each answer is given, or has a reason among the tables.
func TestOnlyWhatIsAsked(t *testing.T) {
	d := dice(25)
	given, reasoned, asked := 0, 0, 0
	for range 1000 {
		rules, q, l := d.plain(8, 4), d.query(), d.facts(30)
		_, tables := mustSolve(t, rules, l, q)
		all := mustRun(t, rules, l)
		met := slowGoals(t, rules, all, q)
		for _, x := range tables {
			g := goalOf(x)
			if !slices.ContainsFunc(met, g.is) {
				t.Fatalf("%s: nobody asks %s", called(rules, l, q), showAtom(x.Goal))
			}
			asked++
			for _, tuple := range x.Answers {
				if slices.ContainsFunc(l, func(f api.Fact) bool { return f.Pred == x.Goal.Pred && slices.Equal(f.Args, tuple) }) {
					given++
				} else if isReasoned(rules, all, tables, x.Goal.Pred, tuple) {
					reasoned++
				} else {
					t.Fatalf("%s: of %s %v has no reason", called(rules, l, q), showAtom(x.Goal), tuple)
				}
			}
		}
	}
	if given < 300 || reasoned < 800 || asked < 1200 {
		t.Errorf("%d given, %d with a reason, %d goals", given, reasoned, asked)
	}
}

// R6, P0.4: rules and facts in any order, and twice.
func TestOrderIsNothing(t *testing.T) {
	d := dice(26)
	for range 1000 {
		rules, q, l := d.plain(8, 5), d.query(), d.facts(24)
		answers, tables := mustSolve(t, rules, l, q)
		facts, other := slices.Concat(l, l), slices.Concat(rules, rules)
		for range 2 {
			slices.Reverse(facts)
			slices.Reverse(other)
			again, same := mustSolve(t, other, facts, q)
			if showTuples("t", again) != showTuples("t", answers) || showTables(same) != showTables(tables) {
				t.Fatalf("%s hangs on the order", called(rules, l, q))
			}
			facts = slices.Concat(facts[len(facts)/3:], facts[:len(facts)/3])
		}
	}
}

// cells are where the texts of all cells of lists stand, spare room too: two lists that share memory have one in common.
type cells map[*string]int

func (c cells) exprs(l []api.Expr) {
	l = l[:cap(l)]
	for i := range l {
		c[&l[i].Term.Var]++
		c.exprs(l[i].Kids)
	}
}

func (c cells) terms(l []api.Term) {
	l = l[:cap(l)]
	for i := range l {
		c[&l[i].Var]++
	}
}

func (c cells) rules(l []api.Rule) {
	l = l[:cap(l)]
	for i := range l {
		c[&l[i].Pred]++
		args := l[i].Head[:cap(l[i].Head)]
		for j := range args {
			c[&args[j].Term.Var]++
		}
		body := l[i].Body[:cap(l[i].Body)]
		for j := range body {
			c[&body[j].Atom.Pred]++
			c.terms(body[j].Atom.Args)
			c.exprs(body[j].Left.Kids)
			c.exprs(body[j].Right.Kids)
		}
	}
}

func (c cells) values(l []api.Value) {
	l = l[:cap(l)]
	for i := range l {
		c[&l[i].Text]++
	}
}

func (c cells) facts(l []api.Fact) {
	l = l[:cap(l)]
	for i := range l {
		c[&l[i].Pred]++
		c.values(l[i].Args)
	}
}

// isOwn: does no cell stand in two lists?
func (c cells) isOwn() bool {
	for _, n := range c {
		if n > 1 {
			return false
		}
	}
	return true
}

// dirty answers a copy of a list with room behind it that must stay as it is.
func dirty[T any](l []T, spare T) []T {
	out := append(make([]T, 0, len(l)+3), l...)
	room := out[len(out):cap(out)]
	for i := range room {
		room[i] = spare
	}
	return out
}

func dirtyExpr(e api.Expr) api.Expr {
	e.Kids = dirty(e.Kids, ex(v("Spare")))
	for i := range e.Kids {
		e.Kids[i] = dirtyExpr(e.Kids[i])
	}
	return e
}

func dirtyRules(l []api.Rule) []api.Rule {
	out := dirty(l, api.Rule{Pred: "spare"})
	for i, r := range out {
		out[i].Head = dirty(r.Head, api.Arg{Term: v("Spare")})
		out[i].Body = dirty(r.Body, pos("spare"))
		for j, lit := range out[i].Body {
			lit.Atom.Args = dirty(lit.Atom.Args, v("Spare"))
			lit.Left, lit.Right = dirtyExpr(lit.Left), dirtyExpr(lit.Right)
			out[i].Body[j] = lit
		}
	}
	return out
}

func wholeExpr(e api.Expr) string {
	out := fmt.Sprint(e.Kids[:cap(e.Kids)])
	for _, kid := range e.Kids {
		out += wholeExpr(kid)
	}
	return out
}

// whole writes rules with their spare room.
func whole(l []api.Rule) string {
	out := fmt.Sprint(l[:cap(l)])
	for _, r := range l {
		out += "\n" + fmt.Sprint(r.Head[:cap(r.Head)]) + fmt.Sprint(r.Body[:cap(r.Body)])
		for _, lit := range r.Body {
			out += fmt.Sprint(lit.Atom.Args[:cap(lit.Atom.Args)]) + wholeExpr(lit.Left) + wholeExpr(lit.Right)
		}
	}
	return out
}

func (c cells) tuples(l [][]api.Value) {
	for _, tuple := range l[:cap(l)] {
		c.values(tuple)
	}
}

// R4: what is handed in stays as it was, its spare room too; no list of an answer shares memory with another one, of another answer or of what was handed in.
func TestMemoryOfItsOwn(t *testing.T) {
	d := dice(27)
	told := 0
	for range 1000 {
		rules, q, l := dirtyRules(d.plain(7, 5)), d.query(), dirty(d.facts(36), api.Fact{Pred: "spare"})
		q.Args = dirty(q.Args, v("Spare"))
		for i := range l {
			l[i].Args = dirty(l[i].Args, num(99))
		}
		before := whole(rules) + fmt.Sprint(q.Args[:cap(q.Args)]) + wholeFacts(l)
		all := cells{}
		all.rules(rules)
		all.terms(q.Args)
		all.facts(l)
		for range 2 {
			answers, tables := mustSolve(t, rules, l, q)
			all.tuples(answers)
			told += len(answers)
			for _, x := range tables[:cap(tables)] {
				all.terms(x.Goal.Args)
				all.tuples(x.Answers)
				told += len(x.Answers)
			}
		}
		if !all.isOwn() {
			t.Fatalf("%s: two lists share memory", called(rules, l, q))
		}
		if whole(rules)+fmt.Sprint(q.Args[:cap(q.Args)])+wholeFacts(l) != before {
			t.Fatalf("%s: what was handed in is turned", called(rules, l, q))
		}
	}
	if told < 3500 {
		t.Errorf("%d tuples alone", told)
	}
}

func wholeFacts(l []api.Fact) string {
	out := fmt.Sprint(l[:cap(l)])
	for _, f := range l {
		out += fmt.Sprint(f.Args[:cap(f.Args)])
	}
	return out
}

// R5: the same call twice.
func TestTwice(t *testing.T) {
	d := dice(28)
	for range 300 {
		rules, q, l := d.plain(9, 5), d.query(), d.facts(16)
		answers, tables := mustSolve(t, rules, l, q)
		for range 3 {
			again, same, err := table.Solve(rules, l, q)
			if err != api.OK || showTuples("t", again) != showTuples("t", answers) || showTables(same) != showTables(tables) {
				t.Fatalf("%s answers otherwise", called(rules, l, q))
			}
		}
	}
}
