package depend_test

import (
	"slices"
	"strconv"
	"strings"
	"testing"

	"pedigree/api"
	"pedigree/depend"
)

const family = "anc(X, Y) :- par(X, Y). anc(X, Y) :- par(X, Z), anc(Z, Y). root(X) :- par(X, _), not anc(_, X). n(count()) :- root(X)."

// The rows of the chapter's 'Examples'.
func TestExamples(t *testing.T) {
	a := programOf(t, family)
	wantEdges(t, a, "anc to par plain 0, anc to par plain 1, anc to anc plain 1, root to par plain 2, root to anc not 2, n to root agg 3")
	wantParts(t, a, "par | anc | root | n")
	wantLevels(t, a, "anc 0, n 2, par 0, root 1")
	wantReach(t, a, "root", "anc", "par", "root")
	wantReach(t, a, "x y", "x y")
	wantSplit(t, a, 0, 1, 2, 3)
	wantSplit(t, program(a.Rules[:3]...), 0, 1)
	wantFlat(t, a.Rules, false, false)
	wantFlat(t, a.Rules[:2], true, true)
	wantFlat(t, a.Rules[2:3], true, true)
	refuseLevels(t, programOf(t, "p(X) :- e(X), not q(X). q(X) :- p(X)."), 0, api.ErrNegCycle)
	refuseLevels(t, programOf(t, "p(X) :- q(X). q(Y) :- p(X), Y = X + 1."), 1, api.ErrMakeCycle)
	wantLevels(t, programOf(t, "q(Y) :- e(X), Y = X + 1. q(X) :- q(X)."), "e 0, q 1")
	refuseLevels(t, programOf(t, "p(count()) :- p(X), not p(X)."), 0, api.ErrAggCycle)
	wantLevels(t, program(), "")
	wantParts(t, programOf(t, "a :- c. b :- a. c :- a, e. d."), "d | e | a c | b")
	wantFlat(t, programOf(t, "q(Y) :- e(X), Y = X + 1.").Rules, true, false)
}

// P9.2: one edge an atom, in the rules' and the bodies' order; the Kind is the first that applies.
func TestEdges(t *testing.T) {
	rows := []struct{ source, want string }{
		{"p.", ""},
		{"p(1). q(count()). r(X) :- X = 1 + 1.", ""},
		{"p :- q.", "p to q plain 0"},
		{"p. p :- q. p :- q.", "p to q plain 1, p to q plain 2"},
		{"p :- q, q, not q, q.", "p to q plain 0, p to q plain 0, p to q not 0, p to q plain 0"},
		{"p(X) :- z(X), X = Y, a(Y), X < 3, m(X).", "p to z plain 0, p to a plain 0, p to m plain 0"},
		{"p :- p, not p.", "p to p plain 0, p to p not 0"},
		{"p(count()) :- q(X), not r(X).", "p to q agg 0, p to r not 0"},
		{"p(X, count()) :- q(X). p(count(), X) :- q(X).", "p to q agg 0, p to q agg 1"},
		{"p(sum(X)) :- q(X). p(min(X)) :- q(X). p(max(X)) :- q(X).", "p to q agg 0, p to q agg 1, p to q agg 2"},
		{"p(Y) :- q(X), not r(X), Y = X + 1, s(X).", "p to q make 0, p to r not 0, p to s make 0"},
		{"p(Y, count()) :- q(X), not r(X), Y = X + 1.", "p to q agg 0, p to r not 0"},
		{"p(sum(Y)) :- q(X), Y = X + 1.", "p to q agg 0"},
		{"p(Y) :- q(X), Y = X.", "p to q plain 0"},
		{"p(X) :- q(X), X < 2 + 2.", "p to q plain 0"},
		{"p(Y) :- q(X), Y = X, X < 2 + 2.", "p to q make 0"},
		{"p(Y) :- q(X), Y = X + 1, r(Y).", "p to q plain 0, p to r plain 0"},
	}
	for _, r := range rows {
		wantEdges(t, programOf(t, r.source), r.want)
	}
	wantEdges(t, program(), "")
}

// P9.1: of rules that may not be used, too, just what the chapter names is looked at.
func TestEdgesOfWrongRules(t *testing.T) {
	for _, kind := range []api.LitKind{api.LNone, api.LCmp, 4, -1, 127, -128} {
		l := pos("q")
		l.Kind = kind
		wantEdges(t, program(rule("p", nil, pos("a"), l, not("b"))), "p to a plain 0, p to b not 0")
		wantParts(t, program(rule("p", nil, l)), "p")
		wantReach(t, program(rule("p", nil, l)), "p", "p")
		wantSplit(t, program(rule("p", nil, l), rule("q", nil)))
		wantFlat(t, []api.Rule{rule("p", nil, l), rule("q", nil)}, true, true)
	}
	for _, agg := range []api.Agg{api.AggCount, api.AggSum, api.AggMin, api.AggMax, 5, -1, 127, -128} {
		args := []api.Arg{{Term: v("x")}, {Agg: agg, Term: v("_")}, {}}
		wantEdges(t, program(rule("", args, pos("q"), not("q"))), " to q agg 0,  to q not 0")
		wantSplit(t, program(rule("p", nil, pos("r")), rule("p", args), rule("q", nil), rule("r", nil)), 0, 1, 3)
		wantFlat(t, []api.Rule{rule("p", args)}, false, false)
		refuseLevels(t, program(rule("p", args, pos("p"))), 0, api.ErrAggCycle)
	}
	makes := rule("p", head(v("Y")), pos("p", v("X")), eq(ex(v("Y")), op(api.OpNeg, ex(v("X")))))
	wantEdges(t, program(makes), "p to p make 0")
	for _, wrong := range []func(r *api.Rule){
		func(r *api.Rule) { r.Pred = "P" },
		func(r *api.Rule) { r.Head = append(r.Head, api.Arg{}) },
		func(r *api.Rule) { r.Head = append(r.Head, api.Arg{Term: v("Z")}) },
		func(r *api.Rule) { r.Body = append(r.Body, api.Literal{}) },
		func(r *api.Rule) { r.Body = append(r.Body, eq(ex(v("_")), ex(n(1)))) },
	} {
		r := rule("p", slices.Clone(makes.Head), slices.Clone(makes.Body)...)
		wrong(&r)
		wantEdges(t, program(r), r.Pred+" to p plain 0")
		wantFlat(t, []api.Rule{r}, true, true)
	}
}

// P9.3: who comes to one another, and which part stands next.
func TestParts(t *testing.T) {
	rows := []struct{ source, want string }{
		{"p.", "p"},
		{"p. p. p(1).", "p"},
		{"p :- q.", "q | p"},
		{"p :- p.", "p"},
		{"b. a. c.", "a | b | c"},
		{"a :- z. m.", "m | z | a"},
		{"a :- z. z :- b. m.", "b | m | z | a"},
		{"a :- not z. y(count()) :- a(X).", "z | a | y"},
		{"a :- b. b :- c. c :- a.", "a b c"},
		{"c :- b. b :- a. a :- c. d :- b. b :- e.", "e | a b c | d"},
		{"a :- z. z :- a. m :- n. n :- m.", "a z | m n"},
		{"a :- z. z :- a. m :- n. n :- m. z :- m.", "m n | a z"},
		{"a :- z. z :- a. m :- n. n :- m. b.", "a z | b | m n"},
		{"x :- a. a :- y. y :- b. b :- x. a :- c. c :- d. d :- c. k :- d.", "c d | a b x y | k"},
		{"e :- d. d :- c. c :- b. b :- a.", "a | b | c | d | e"},
		{"a :- b. b :- c. c :- d. d :- e.", "e | d | c | b | a"},
		{"b :- z. c :- z. a :- c. d.", "d | z | b | c | a"},
		{"p :- p1. p1 :- p. p0 :- p. p2.", "p p1 | p0 | p2"},
		{"r :- a, b, c. a :- b. b :- a. c :- r.", "a b | c r"},
		{"a :- z. z :- m. m :- z. n.", "m z | a | n"},
		{"aB. a_. ab. a1. aa.", "a1 | aB | a_ | aa | ab"},
	}
	for _, r := range rows {
		wantParts(t, programOf(t, r.source), r.want)
	}
	wantParts(t, program(), "")
}

// P9.4: the levels, the names rising.
func TestLevels(t *testing.T) {
	rows := []struct{ source, want string }{
		{"p.", "p 0"},
		{"b. a. c.", "a 0, b 0, c 0"},
		{"a :- b. b :- a.", "a 0, b 0"},
		{"a :- not b.", "a 1, b 0"},
		{"a(count()) :- b(X).", "a 1, b 0"},
		{"a(Y) :- b(X), Y = X * 2.", "a 1, b 0"},
		{"a(count()). b(X) :- X = 1 + 1.", "a 0, b 0"},
		{"a :- not b. b :- not c. c :- not d.", "a 3, b 2, c 1, d 0"},
		{"d :- not c. c :- not b. b :- not a.", "a 0, b 1, c 2, d 3"},
		{"a :- b. b :- c. c :- a, not d. x :- a.", "a 1, b 1, c 1, d 0, x 1"},
		{"a :- not b, c. c :- d. d :- not e. e :- not f. g :- a.", "a 2, b 0, c 2, d 2, e 1, f 0, g 2"},
		{"a(X) :- b(X), not c(X). b(count()) :- a1(X). a1(Y) :- c(X), Y = X + 1.", "a 2, a1 1, b 2, c 0"},
		{"alive(X) :- node(X), not dead(X). dead(X) :- hit(X). dead(Y) :- dead(X), near(X, Y).", "alive 1, dead 0, hit 0, near 0, node 0"},
	}
	for _, r := range rows {
		wantLevels(t, programOf(t, r.source), r.want)
	}
}

// P9.4: there are none; the first edge that is strict and whose To comes to its From.
func TestNoLevels(t *testing.T) {
	rows := []struct {
		source string
		at     int
		code   api.Errno
	}{
		{"p :- not p.", 0, api.ErrNegCycle},
		{"win(X) :- move(X, Y), not win(Y).", 0, api.ErrNegCycle},
		{"p(count()) :- p(X).", 0, api.ErrAggCycle},
		{"p(Y) :- p(X), Y = X + 1.", 0, api.ErrMakeCycle},
		{"p(Y, count()) :- p(X, X), Y = X + 1.", 0, api.ErrAggCycle},
		{"p(count()) :- q(X), not p(X), r(X). r(X) :- p(X).", 0, api.ErrNegCycle},
		{"p(count()) :- q(X), r(X), not p(X). r(X) :- p(X).", 0, api.ErrAggCycle},
		{"p(Y) :- q(X), not p(X), r(X), Y = X + 1. r(X) :- p(X).", 0, api.ErrNegCycle},
		{"p(Y) :- q(X), r(X), not p(X), Y = X + 1. r(X) :- p(X).", 0, api.ErrMakeCycle},
		{"a :- not z. z. b :- not a. c :- d. d :- not c. e :- not e.", 4, api.ErrNegCycle},
		{"a :- b. b :- c. c :- a. b(count()) :- c(X). c :- not a.", 3, api.ErrAggCycle},
		{"a :- b, not z. b :- c. c :- b. a(count()) :- b(X). c(Y) :- a(X), Y = X + 1.", 3, api.ErrAggCycle},
		{"p. p. q :- p. q :- not q. p(count()) :- p(X).", 3, api.ErrNegCycle},
		{"a :- b. b :- c. c :- d. d :- e. e :- f. f :- not a.", 5, api.ErrNegCycle},
	}
	for _, r := range rows {
		refuseLevels(t, programOf(t, r.source), r.at, r.code)
	}
}

// P9.5: the predicate itself, whatever text it is, and all to which it comes.
func TestReach(t *testing.T) {
	p := programOf(t, "a :- b. b :- c, not d. c :- b. e(count()) :- a(X). f.")
	wantReach(t, p, "a", "a", "b", "c", "d")
	wantReach(t, p, "b", "b", "c", "d")
	wantReach(t, p, "c", "b", "c", "d")
	wantReach(t, p, "d", "d")
	wantReach(t, p, "e", "a", "b", "c", "d", "e")
	wantReach(t, p, "f", "f")
	for _, name := range []string{"", " ", "A", "_", "\x00", "\xff", "g", strings.Repeat("long", 100)} {
		wantReach(t, p, name, name)
		wantReach(t, program(), name, name)
	}
	wantReach(t, programOf(t, "z :- b. b :- z, x. a :- z."), "z", "b", "x", "z")
}

// P9.6: which rules are ahead.
func TestSplit(t *testing.T) {
	rows := []struct {
		source string
		ahead  []int
	}{
		{"p. q :- p. r :- r.", nil},
		{"p :- not q. q. r. q :- r.", []int{1, 2, 3}},
		{"p :- not q. p :- r. r.", nil},
		{"p :- q. q :- not p.", []int{0, 1}},
		{"p(count()). q :- p(X). r.", []int{0}},
		{"p(1). q(X) :- p(X). p(count()) :- r(X). r(2).", []int{0, 2, 3}},
		{"p(X) :- X = 1 + 1. q(X) :- p(X).", []int{0}},
		{"p(Y) :- r(X), Y = X + 1. q(X) :- p(X). r(X) :- s(X). s(1). p(7).", []int{0, 2, 3, 4}},
		{"a :- b. b :- c. c :- a, not d. d :- e. e. f :- a.", []int{3, 4}},
		{"c :- not z. z :- y. y :- z. b :- c. a(count()) :- b(X). d :- a(X).", []int{0, 1, 2, 3, 4}},
		{"d. c. b. a. e :- not c, not a.", []int{1, 3}},
		{"e :- not x. x :- x1. x. x1. e.", []int{1, 2, 3}},
	}
	for _, r := range rows {
		wantSplit(t, programOf(t, r.source), r.ahead...)
	}
	wantSplit(t, program())
}

// P9.7: of one level, and plain.
func TestOneLevelAndPlain(t *testing.T) {
	rows := []struct {
		source     string
		one, plain bool
	}{
		{"p.", true, true},
		{"p :- q. q :- p.", true, true},
		{"p :- not q.", true, true},
		{"p :- not q. q.", false, false},
		{"q. p :- not q.", false, false},
		{"p :- not p.", false, false},
		{"p :- not q. r :- p.", true, true},
		{"p(count()).", false, false},
		{"p(sum(X)) :- q(X).", false, false},
		{"p. q. r(X, max(X)) :- z(X).", false, false},
		{"p(X) :- X = 1 + 1.", true, false},
		{"p(Y) :- q(X), Y = X + 1. r(X) :- p(X).", true, false},
		{"p(Y) :- q(X), Y = X + 1. q(X) :- r(X).", false, false},
		{"p(Y) :- p(X), Y = X + 1.", false, false},
		{"r(X) :- q(X). p(Y) :- q(X), Y = X.", true, true},
		{"r(X) :- q(X). q(Y) :- q(X), X < 1 + 1, Y = X.", false, false},
		{"p(X) :- q(X), X < 1 + 1. q(X) :- p(X).", true, true},
	}
	for _, r := range rows {
		wantFlat(t, programOf(t, r.source).Rules, r.one, r.plain)
	}
	wantFlat(t, nil, true, true)
	wantFlat(t, []api.Rule{}, true, true)
}

// P9.2 to P9.6: a name may be any text; the order is that of the bytes.
func TestNamesOfAnyText(t *testing.T) {
	long := strings.Repeat("n", 500)
	names := []string{"", "\x00", " ", "A", "_", "a", "a\x00", "a ", "aa", "b", long, "not", "\x80", "é", "\xff"}
	slices.Sort(names)
	var p api.Program
	for _, name := range slices.Backward(names) {
		p.Rules = append(p.Rules, rule(name, nil))
	}
	wantParts(t, p, strings.Join(names, " | "))
	wantLevels(t, p, strings.Join(names, " 0, ")+" 0")
	for i := range names[1:] {
		p.Rules = append(p.Rules, rule(names[i], nil, pos(names[i+1])))
	}
	wantReach(t, p, "", names...)
	wantReach(t, p, "\xff", "\xff")
	wantReach(t, p, "A", names[3:]...)
	backward := slices.Collect(func(yield func(string) bool) {
		for _, name := range slices.Backward(names) {
			if !yield(name) {
				return
			}
		}
	})
	wantParts(t, p, strings.Join(backward, " | "))
	p.Rules = append(p.Rules, rule("\xff", nil, pos("")))
	wantParts(t, p, strings.Join(names, " "))
	wantSplit(t, p)
	wantSplit(t, program(append(p.Rules, rule("z", nil, not("")))...), numbers(len(p.Rules))...)
	refuseLevels(t, program(append(p.Rules, rule("", nil, not("\xff")))...), len(p.Rules), api.ErrNegCycle)
	wantFlat(t, []api.Rule{rule("", nil, not("a")), rule("A", nil)}, true, true)
	wantFlat(t, []api.Rule{rule("", nil, not("A")), rule("A", nil)}, false, false)
	wantFlat(t, []api.Rule{rule("", nil, not(""))}, false, false)
}

// numbers are those from 0 on, so many.
func numbers(count int) []int {
	var out []int
	for i := range count {
		out = append(out, i)
	}
	return out
}

// chain is rules each of whose predicates depends on that of the next one, the names rising; the last one on more.
func chain(count int, lit func(pred string, l ...api.Term) api.Literal, more ...api.Literal) []api.Rule {
	name := func(i int) string { return "p" + strconv.Itoa(1000000+i) }
	var l []api.Rule
	for i := range count - 1 {
		l = append(l, rule(name(i), nil, lit(name(i+1))))
	}
	return append(l, rule(name(count-1), nil, more...))
}

// R1, P9.3 to P9.6: many rules, in both orders; a way that is as long as there are predicates.
func TestLongWays(t *testing.T) {
	const count, most = 60000, 4000
	line, round, nots := chain(count, pos), chain(count, pos, pos("p1000000")), chain(most, not)
	for range 2 {
		if l := depend.Parts(program(line...)); len(l) != count || l[0][0] != "p1059999" || l[count-1][0] != "p1000000" {
			t.Errorf("%d parts of a line", len(l))
		}
		if l := depend.Parts(program(round...)); len(l) != 1 || len(l[0]) != count || !slices.IsSorted(l[0]) {
			t.Errorf("%d parts of a ring", len(l))
		}
		l, _, err := depend.Levels(program(nots...))
		if err != api.OK || len(l) != most || l[0].N != most-1 || l[most/2].N != most-1-most/2 || l[most-1].N != 0 {
			t.Errorf("%d levels of a line of nots, %d", len(l), err)
		}
		if l, _, err := depend.Levels(program(round...)); err != api.OK || len(l) != count || l[count/2].N != 0 {
			t.Errorf("%d levels of a ring, %d", len(l), err)
		}
		if l := depend.Reach(program(line...), "p1000001"); len(l) != count-1 {
			t.Errorf("%d are reached", len(l))
		}
		if ahead, plain := depend.Split(program(nots...)); len(ahead.Rules) != most-1 || len(plain.Rules) != 1 {
			t.Errorf("%d rules are ahead", len(ahead.Rules))
		}
		for _, l := range [][]api.Rule{line, round, nots} {
			slices.Reverse(l)
		}
	}
	if depend.OneLevel(nots) || !depend.Plain(line) {
		t.Error("OneLevel or Plain of a line")
	}
}
