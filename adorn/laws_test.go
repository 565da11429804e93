package adorn_test

import (
	"fmt"
	"slices"
	"strings"
	"testing"

	"pedigree/adorn"
	"pedigree/api"
	"pedigree/check"
	"pedigree/depend"
	"pedigree/model"
	"pedigree/semi"
	"pedigree/term"
)

// facts are of predicates that are given, and of some for which rules may be.
func (d *dice) facts(most int) []api.Fact {
	var out []api.Fact
	for range d.below(most + 1) {
		p := d.pred(given()[:4])
		if d.below(5) == 0 {
			p = d.pred(ruled())
		}
		f := api.Fact{Pred: p.Name}
		for range p.Arity {
			f.Args = append(f.Args, d.value())
		}
		out = append(out, f)
	}
	return out
}

func mustRun(t *testing.T, rules []api.Rule, l []api.Fact) []api.Fact {
	t.Helper()
	out, _, err := semi.Run(rules, l)
	if err != api.OK {
		t.Fatalf("Run(%s, %v): %d", showRules(rules), l, err)
	}
	return out
}

// tuplesOf are those of the facts of a name.
func tuplesOf(l []api.Fact, pred string) string {
	var out []string
	for _, f := range l {
		if f.Pred == pred {
			out = append(out, fmt.Sprint(f.Args))
		}
	}
	return strings.Join(out, " ")
}

// P18.5: what comes out may be used, has one arity each and is plain; each pair has just the tuples of its predicate, and the query its answers.
func TestWhatItMeans(t *testing.T) {
	d := dice(11)
	full, answered := 0, 0
	for range 3000 {
		rules, q, l := d.plain(8, 4), d.query(), d.facts(24)
		g, pairs := mustAdorn(t, rules, q)
		if err := check.Job(g.Rules, l); err != api.OK || !depend.Plain(g.Rules) {
			t.Fatalf("Adorn(%s, %s) cannot be worked with, %d:\n%s", showRules(rules), showAtom(q), err, told(g, pairs))
		}
		want, got := mustRun(t, rules, l), mustRun(t, g.Rules, l)
		for _, pair := range pairs {
			tuples := tuplesOf(want, pair.Pred)
			if tuplesOf(got, adorn.Name(pair)) != tuples {
				t.Fatalf("%s over %v: %v has %s, not %s", showRules(rules), l, pair, tuplesOf(got, adorn.Name(pair)), tuples)
			}
			full += min(len(tuples), 1)
		}
		answers := fmt.Sprint(model.Answers(q, want))
		if fmt.Sprint(model.Answers(g.Query, got)) != answers {
			t.Fatalf("%s over %v: %s has the answers %v, not %s", showRules(rules), l, showAtom(q), model.Answers(g.Query, got), answers)
		}
		if answers != "[]" {
			answered++
		}
	}
	if full < 3000 || answered < 600 {
		t.Errorf("%d pairs alone had tuples, %d queries answers", full, answered)
	}
}

// standsIn: does the pair stand in the body of a rule of the other one?
func standsIn(g api.Goal, pair, other api.Adorned) bool {
	return slices.ContainsFunc(g.Rules, func(r api.Rule) bool {
		return r.Pred == adorn.Name(other) && slices.ContainsFunc(r.Body, func(l api.Literal) bool {
			return l.Kind == api.LPos && l.Atom.Pred == adorn.Name(pair)
		})
	})
}

// P18.6: no pair twice; each but the first stands in a rule of one that was met ahead of it; its patterns have b and f alone, one a column.
func TestNoMoreThanIsAsked(t *testing.T) {
	d := dice(12)
	columns := map[string]int{}
	for _, p := range ruled() {
		columns[p.Name] = p.Arity
	}
	for range 3000 {
		rules, q := d.plain(9, 5), d.query()
		g, pairs := mustAdorn(t, rules, q)
		for i, pair := range pairs {
			if slices.Contains(pairs[:i], pair) {
				t.Fatalf("Adorn(%s, %s): %v is met twice", showRules(rules), showAtom(q), pair)
			}
			if i > 0 && !slices.ContainsFunc(pairs[:i], func(x api.Adorned) bool { return standsIn(g, pair, x) }) {
				t.Fatalf("Adorn(%s, %s): nobody asks for %v ahead of it", showRules(rules), showAtom(q), pair)
			}
			if !hasRules(rules, pair.Pred) || len(pair.Pattern) != columns[pair.Pred] || strings.Trim(pair.Pattern, "bf") != "" {
				t.Fatalf("Adorn(%s, %s): %v", showRules(rules), showAtom(q), pair)
			}
		}
		if count := len(pairs) + sumOf(pairs, rules); len(g.Rules) != count {
			t.Fatalf("Adorn(%s, %s): %d rules", showRules(rules), showAtom(q), len(g.Rules))
		}
	}
}

// sumOf counts the rules of each pair's predicate.
func sumOf(pairs []api.Adorned, rules []api.Rule) int {
	out := 0
	for _, pair := range pairs {
		for _, r := range rules {
			if r.Pred == pair.Pred {
				out++
			}
		}
	}
	return out
}

// The words 'the order of asking': what an atom is asked with comes from the known variables, from values and from atoms ahead of it alone.
func TestNothingOutOfOperations(t *testing.T) {
	d := dice(13)
	operations := 0
	for range 5000 {
		rules, q := d.plain(8, 6), d.query()
		g, pairs := mustAdorn(t, rules, q)
		for _, r := range g.Rules {
			at := slices.IndexFunc(pairs, func(x api.Adorned) bool { return adorn.Name(x) == r.Pred })
			var known []string
			for i, c := range pairs[at].Pattern {
				if c == 'b' {
					known = append(known, r.Head[i].Term.Var)
				}
			}
			for _, l := range r.Body {
				if operations += len(l.Left.Kids) + len(l.Right.Kids); l.Kind != api.LPos {
					continue
				}
				if to := slices.IndexFunc(pairs, func(x api.Adorned) bool { return adorn.Name(x) == l.Atom.Pred }); to >= 0 && pairs[to].Pattern != adorn.Pattern(l.Atom, known) {
					t.Fatalf("Adorn(%s, %s): %s asks more than the atoms ahead tell", showRules(rules), showAtom(q), showRules([]api.Rule{r}))
				}
				known = append(known, term.AtomVars(l.Atom)...)
			}
		}
	}
	if operations < 2000 {
		t.Errorf("%d operations alone", operations)
	}
}

// P18.6: within the limits of check.Input ErrSize does not come: the longest names, the most columns, all patterns.
func TestWithinTheLimits(t *testing.T) {
	name := func(c string) string { return strings.Repeat(c, api.MaxName) }
	all := many(api.MaxArity)
	var rules []api.Rule
	for i := range all {
		args := slices.Clone(all)
		args[i] = api.Term{Val: num(int64(i))}
		rules = append(rules, api.Rule{Pred: name("p"), Head: head(all...), Body: []api.Literal{pos(name("p"), args...), pos(name("e"), all...)}})
	}
	q := atom(name("p"), all...)
	if refusal := check.Input(api.Program{Rules: rules}, nil, q); (refusal != api.Refusal{}) {
		t.Fatalf("Input: %v", refusal)
	}
	g, pairs := mustAdorn(t, rules, q)
	if len(pairs) != 256 || len(g.Rules) != 256*9 || len(adorn.Name(pairs[0])) != 35 {
		t.Errorf("%d pairs, %d rules", len(pairs), len(g.Rules))
	}
	for _, r := range g.Rules {
		if term.CheckRule(r) != api.OK {
			t.Fatalf("%v is no rule", r)
		}
	}
}

// cells are where the texts of all cells of lists stand, spare room too: two lists that share memory have one in common.
type cells map[*string]int

func (c cells) exprs(l []api.Expr) {
	l = l[:cap(l)]
	for i := range l {
		c[&l[i].Term.Var]++
		c.exprs(l[i].Kids)
	}
}

func (c cells) terms(l []api.Term) {
	l = l[:cap(l)]
	for i := range l {
		c[&l[i].Var]++
	}
}

func (c cells) rules(l []api.Rule) {
	l = l[:cap(l)]
	for i := range l {
		c[&l[i].Pred]++
		args := l[i].Head[:cap(l[i].Head)]
		for j := range args {
			c[&args[j].Term.Var]++
		}
		body := l[i].Body[:cap(l[i].Body)]
		for j := range body {
			c[&body[j].Atom.Pred]++
			c.terms(body[j].Atom.Args)
			c.exprs(body[j].Left.Kids)
			c.exprs(body[j].Right.Kids)
		}
	}
}

func (c cells) pairs(l []api.Adorned) {
	l = l[:cap(l)]
	for i := range l {
		c[&l[i].Pred]++
	}
}

// isOwn: does no cell stand in two lists?
func (c cells) isOwn() bool {
	for _, n := range c {
		if n > 1 {
			return false
		}
	}
	return true
}

// dirty answers a copy of a list with room behind it that must stay as it is.
func dirty[T any](l []T, spare T) []T {
	out := append(make([]T, 0, len(l)+3), l...)
	room := out[len(out):cap(out)]
	for i := range room {
		room[i] = spare
	}
	return out
}

func dirtyExpr(e api.Expr) api.Expr {
	e.Kids = dirty(e.Kids, ex(v("Spare")))
	for i := range e.Kids {
		e.Kids[i] = dirtyExpr(e.Kids[i])
	}
	return e
}

func dirtyRules(l []api.Rule) []api.Rule {
	out := dirty(l, api.Rule{Pred: "spare"})
	for i, r := range out {
		out[i].Head = dirty(r.Head, api.Arg{Term: v("Spare")})
		out[i].Body = dirty(r.Body, pos("spare"))
		for j, lit := range out[i].Body {
			lit.Atom.Args = dirty(lit.Atom.Args, v("Spare"))
			lit.Left, lit.Right = dirtyExpr(lit.Left), dirtyExpr(lit.Right)
			out[i].Body[j] = lit
		}
	}
	return out
}

func wholeExpr(e api.Expr) string {
	out := fmt.Sprint(e.Kids[:cap(e.Kids)])
	for _, kid := range e.Kids {
		out += wholeExpr(kid)
	}
	return out
}

// whole writes rules with their spare room.
func whole(l []api.Rule) string {
	out := fmt.Sprint(l[:cap(l)])
	for _, r := range l {
		out += "\n" + fmt.Sprint(r.Head[:cap(r.Head)]) + fmt.Sprint(r.Body[:cap(r.Body)])
		for _, lit := range r.Body {
			out += fmt.Sprint(lit.Atom.Args[:cap(lit.Atom.Args)]) + wholeExpr(lit.Left) + wholeExpr(lit.Right)
		}
	}
	return out
}

// R4: what is handed in stays as it was, its spare room too; no list of an answer shares memory with another one, of another answer or of what was handed in.
func TestMemoryOfItsOwn(t *testing.T) {
	d := dice(14)
	kids := 0
	for range 1500 {
		rules, q := dirtyRules(d.plain(7, 5)), d.query()
		q.Args = dirty(q.Args, v("Spare"))
		before, asked := whole(rules), fmt.Sprint(q.Args[:cap(q.Args)])
		all := cells{}
		all.rules(rules)
		all.terms(q.Args)
		for range 2 {
			g, pairs := mustAdorn(t, rules, q)
			all.rules(g.Rules)
			all.terms(g.Query.Args)
			all.pairs(pairs)
			for _, r := range g.Rules {
				for _, l := range r.Body {
					kids += len(l.Left.Kids) + len(l.Right.Kids)
				}
			}
		}
		if !all.isOwn() {
			t.Fatalf("Adorn(%s, %s): two lists share memory", showRules(rules), showAtom(q))
		}
		if whole(rules) != before || fmt.Sprint(q.Args[:cap(q.Args)]) != asked {
			t.Fatalf("Adorn(%s, %s): what was handed in is turned", showRules(rules), showAtom(q))
		}
	}
	if kids < 500 {
		t.Errorf("%d kids alone", kids)
	}
	known := dirty([]string{"X"}, "Y")
	if got := adorn.Pattern(atom("p", v("X"), v("Y")), known); got != "bf" || fmt.Sprint(known[:cap(known)]) != "[X Y Y Y]" {
		t.Errorf("Pattern: %s, %v", got, known[:cap(known)])
	}
}

// R5: the same call twice.
func TestTwice(t *testing.T) {
	d := dice(15)
	for range 500 {
		rules, q := d.plain(9, 5), d.query()
		g, pairs := mustAdorn(t, rules, q)
		want := told(g, pairs)
		for range 3 {
			if g, pairs := mustAdorn(t, rules, q); told(g, pairs) != want {
				t.Fatalf("Adorn(%s, %s):\n%s\nand then:\n%s", showRules(rules), showAtom(q), want, told(g, pairs))
			}
		}
	}
}
