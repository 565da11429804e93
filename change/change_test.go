package change_test

import (
	"fmt"
	"strconv"
	"strings"
	"testing"

	"pedigree/api"
	"pedigree/change"
	"pedigree/model"
	"pedigree/parse"
	"pedigree/print"
)

const ancestors = "anc(X, Y) :- par(X, Y). anc(X, Y) :- par(X, Z), anc(Z, Y)."

func num(n int64) api.Value { return api.Value{Kind: api.KNum, Num: n} }

func text(s string) api.Value { return api.Value{Kind: api.KText, Text: s} }

func fact(pred string, l ...api.Value) api.Fact { return api.Fact{Pred: pred, Args: l} }

// nums is a fact of numbers.
func nums(pred string, l ...int) api.Fact {
	f := api.Fact{Pred: pred}
	for _, n := range l {
		f.Args = append(f.Args, num(int64(n)))
	}
	return f
}

func v(name string) api.Term { return api.Term{Var: name} }

func ex(t api.Term) api.Expr { return api.Expr{Term: t} }

func op(o api.Op, kids ...api.Expr) api.Expr { return api.Expr{Op: o, Kids: kids} }

func lit(kind api.LitKind, pred string, l ...api.Term) api.Literal {
	return api.Literal{Kind: kind, Atom: api.Atom{Pred: pred, Args: l}}
}

func cmp(left api.Expr, rel api.Rel, right api.Expr) api.Literal {
	return api.Literal{Kind: api.LCmp, Rel: rel, Left: left, Right: right}
}

func head(l ...api.Term) []api.Arg {
	var out []api.Arg
	for _, x := range l {
		out = append(out, api.Arg{Term: x})
	}
	return out
}

func programOf(t *testing.T, source string) api.Program {
	t.Helper()
	p, fault := parse.Program(source)
	if (fault != api.Fault{}) {
		t.Fatalf("%s: %v", source, fault)
	}
	return p
}

func factsOf(t *testing.T, source string) []api.Fact {
	t.Helper()
	l, fault := parse.Facts(source)
	if (fault != api.Fault{}) {
		t.Fatalf("%s: %v", source, fault)
	}
	return l
}

// show writes facts as a source has them, in a line; facts by hand may be none as they may be.
func show(l []api.Fact) string {
	s, err := print.Facts(l)
	if err != api.OK {
		return fmt.Sprint(l)
	}
	return strings.TrimSuffix(strings.ReplaceAll(s, "\n", " "), " ")
}

func showProgram(p api.Program) string {
	s, _ := print.Program(p)
	return strings.ReplaceAll(s, "\n", " ")
}

func mustNew(t *testing.T, p api.Program, l []api.Fact) *change.View {
	t.Helper()
	out, err := change.New(p, l)
	if out == nil || err != api.OK {
		t.Fatalf("New(%s, %s) = %v, %d", showProgram(p), show(l), out, err)
	}
	return out
}

// viewOf is a view of sources.
func viewOf(t *testing.T, rules, facts string) *change.View {
	t.Helper()
	return mustNew(t, programOf(t, rules), factsOf(t, facts))
}

func mustTurn(t *testing.T, x *change.View, add, remove []api.Fact) api.Diff {
	t.Helper()
	d, err := x.Turn(add, remove)
	if err != api.OK {
		t.Fatalf("Turn(%s, %s): %d", show(add), show(remove), err)
	}
	return d
}

// whole writes all that a view tells.
func whole(x *change.View) string {
	return "base " + show(x.Base()) + "; model " + show(x.Facts()) + "; doubted " + show(x.Doubted())
}

// told writes what a turn answers, and what is doubted behind it.
func told(d api.Diff, x *change.View) string {
	return show(d.Added) + " | " + show(d.Removed) + " | " + show(x.Doubted())
}

// row is a turn, and what is told of it.
type row struct{ rules, facts, add, remove, want string }

func (r row) check(t *testing.T) {
	t.Helper()
	x := viewOf(t, r.rules, r.facts)
	d := mustTurn(t, x, factsOf(t, r.add), factsOf(t, r.remove))
	if got := told(d, x); got != r.want {
		t.Errorf("%s over %s, add %s, remove %s: %s; want %s", r.rules, r.facts, r.add, r.remove, got, r.want)
	}
	m, _ := model.Model(programOf(t, r.rules), x.Base())
	if show(x.Facts()) != show(m) {
		t.Errorf("%s over %s, add %s, remove %s: the model is %s; want %s", r.rules, r.facts, r.add, r.remove, show(x.Facts()), show(m))
	}
}

// P24.4, P24.6: the chapter's examples.
func TestExamples(t *testing.T) {
	ring := "p(X) :- q(X). q(X) :- p(X)."
	for _, r := range []row{
		{ancestors, "par(1, 2). par(2, 3).", "", "par(2, 3).", " | anc(1, 3). anc(2, 3). par(2, 3). | anc(1, 3). anc(2, 3). par(2, 3)."},
		{ancestors, "par(1, 2). par(2, 3). par(1, 3).", "", "par(1, 3).", " | par(1, 3). | anc(1, 3). par(1, 3)."},
		{ancestors, "par(1, 2).", "par(2, 1).", "par(5, 5).", "anc(1, 1). anc(2, 1). anc(2, 2). par(2, 1). |  | "},
		{ring, "p(1).", "", "p(1).", " | p(1). q(1). | p(1). q(1)."},
		{ring, "p(1). q(1).", "", "p(1).", " |  | p(1)."},
		{"top(X) :- par(X, _), not par(_, X).", "par(1, 2).", "par(0, 1).", "", "par(0, 1). top(0). | top(1). | top(1)."},
		{"n(count()) :- e(X).", "e(1).", "e(2).", "", "e(2). n(2). | n(1). | n(1)."},
		{"n(max(X)) :- e(X). big :- n(X), X > 2.", "e(3). e(4).", "", "e(4).", "n(3). | e(4). n(4). | big. e(4). n(4)."},
		{ancestors, "par(1, 2).", "par(1, 2).", "par(1, 2).", " |  | "},
		{"", "e(1).", "e(1, 2).", "e(1).", "e(1, 2). | e(1). | e(1)."},
	} {
		r.check(t)
	}
}

// P24.4, P24.6: why facts are doubted, and why not.
func TestDoubted(t *testing.T) {
	for _, r := range []row{
		// two facts that differ where the atom has a blank make two joins
		{"p(X) :- e(X, _).", "e(1, 1). e(1, 2).", "", "e(1, 2).", " | e(1, 2). | e(1, 2). p(1)."},
		{"p(X) :- e(X, _).", "e(1, 1). e(1, 2). p(1).", "", "e(1, 2).", " | e(1, 2). | e(1, 2)."},
		// what is given behind the turn is not doubted, and lets nothing be doubted
		{"p(X) :- e(X). q(X) :- p(X).", "e(1).", "p(1).", "e(1).", " | e(1). | e(1)."},
		{"p(X) :- e(X). q(X) :- p(X).", "e(1). p(1).", "", "p(1).", " |  | p(1). q(1)."},
		// a rule that says a fact
		{"p(1). q(X) :- p(X).", "p(1). p(2).", "", "p(1). p(2).", " | p(2). q(2). | p(1). p(2). q(1). q(2)."},
		// of a lower level only what is gone counts
		{"p(X) :- e(X). p(X) :- f(X). r(X) :- g(X), not p(X). s(X) :- p(X), not r(X).", "e(1). f(1). g(2).", "", "e(1).", " | e(1). | e(1). p(1)."},
		{"p(X) :- e(X). r(X) :- g(X), not p(X). s(X) :- p(X), not r(X).", "e(1). g(2).", "", "e(1).", " | e(1). p(1). s(1). | e(1). p(1). s(1)."},
		// a not that holds no more; one that did not hold ahead of the turn; one that a second fact keeps as it was
		{"p(X) :- e(X), not f(X, _).", "e(1). e(2). f(2, 1).", "f(1, 1). f(1, 2). f(2, 2).", "", "f(1, 1). f(1, 2). f(2, 2). | p(1). | p(1)."},
		{"p(X) :- e(X), not f(X, _).", "e(1). f(1, 1). f(1, 2).", "", "f(1, 1).", " | f(1, 1). | f(1, 1)."},
		{"p(X) :- e(X), not f(X, _).", "e(1). f(1, 1). f(1, 2).", "f(1, 3).", "f(1, 1). f(1, 2).", "f(1, 3). | f(1, 1). f(1, 2). | f(1, 1). f(1, 2)."},
		{"p(X) :- e(X), not f(X, _).", "e(1). f(1, 1). f(1, 2).", "", "f(1, 1). f(1, 2).", "p(1). | f(1, 1). f(1, 2). | f(1, 1). f(1, 2)."},
		{"p(X) :- e(X), not f(X). p(X) :- e(X), not g(X).", "e(1).", "f(1).", "", "f(1). |  | p(1)."},
		{"p :- not f(_, _), not g.", "", "f(1, 2).", "", "f(1, 2). | p. | p."},
		{"p :- not f(_, _), not g.", "f(1, 2). g.", "", "f(1, 2). g.", "p. | f(1, 2). g. | f(1, 2). g."},
		{"p(X) :- e(X), not f(X, X, 3, _).", "e(1). e(2).", "f(1, 1, 3, 7). f(2, 1, 3, 7). f(2, 2, 4, 7).", "", "f(1, 1, 3, 7). f(2, 1, 3, 7). f(2, 2, 4, 7). | p(1). | p(1)."},
		// aggregates: of each rule by itself, and not where the fact is given
		{"n(count()) :- e(X). n(count()) :- f(X).", "e(1). f(7).", "e(2).", "", "e(2). n(2). |  | n(1)."},
		{"n(count()) :- e(X).", "e(1). n(1).", "e(2).", "", "e(2). n(2). |  | "},
		{"n(count()) :- e(X). m(X) :- n(X).", "e(1). n(1).", "e(2).", "n(1).", "e(2). m(2). n(2). | m(1). n(1). | m(1). n(1)."},
		{"n(count()) :- e(X). m(X) :- n(X).", "e(1). n(1).", "", "n(1).", " |  | m(1). n(1)."},
		{"n(count()) :- e(X).", "e(1).", "", "e(1).", " | e(1). n(1). | e(1). n(1)."},
		{"s(X, sum(Y)) :- e(X, Y).", "e(1, 2). e(2, 2).", "e(1, x).", "e(2, 2).", "e(1, x). | e(2, 2). s(1, 2). s(2, 2). | e(2, 2). s(1, 2). s(2, 2)."},
		// values that are made
		{"next(Y) :- e(X), Y = X + 1, not f(Y).", "e(1). e(2).", "f(3). e(4).", "e(1).", "e(4). f(3). next(5). | e(1). next(2). next(3). | e(1). next(2). next(3)."},
		{"next(Y) :- e(X), Y = X + 1, not f(X). up(X) :- next(X).", "e(1). e(2). f(2).", "f(1).", "f(2).", "f(1). next(3). up(3). | f(2). next(2). up(2). | f(2). next(2). up(2)."},
		// facts that are unlike, though their values say the same one behind the other, or but for their kinds
		{"p(X, Y) :- e(X, Y).", "e(1, 12). e(11, 2).", "", "e(1, 12). e(11, 2).", " | e(1, 12). e(11, 2). p(1, 12). p(11, 2). | e(1, 12). e(11, 2). p(1, 12). p(11, 2)."},
		{"p(X, Y) :- e(X, Y), not f(X, Y, _).", "e(1, 12). e(11, 2). f(1, 12, 0).", "f(11, 2, 0).", "", "f(11, 2, 0). | p(11, 2). | p(11, 2)."},
		{`p(X) :- e(X), not f(X, _).`, `e(1). e("1"). f(1, 0).`, `f("1", 0).`, "", `f("1", 0). | p("1"). | p("1").`},
		{`p(X, Y) :- e(X, Y).`, `e("a, b", c). e(a, "b, c").`, "", `e("a, b", c). e(a, "b, c").`, ` | e(a, "b, c"). e("a, b", c). p(a, "b, c"). p("a, b", c). | e(a, "b, c"). e("a, b", c). p(a, "b, c"). p("a, b", c).`},
		// a fact that nothing but itself leads to goes
		{"p(X) :- p(X).", "p(1).", "", "p(1).", " | p(1). | p(1)."},
		{"t(X, Z) :- t(X, Y), t(Y, Z). t(X, Y) :- e(X, Y).", "e(1, 2). e(2, 1). e(2, 3).", "", "e(2, 1).", " | e(2, 1). t(1, 1). t(2, 1). t(2, 2). | e(2, 1). t(1, 1). t(1, 2). t(1, 3). t(2, 1). t(2, 2). t(2, 3)."},
	} {
		r.check(t)
	}
}

// P24.2, P24.3: the base and the model in order, each fact once; nothing is doubted.
func TestNew(t *testing.T) {
	x := viewOf(t, ancestors, "par(2, 3). par(1, 2). z. par(2, 3). anc(9, 9). par(1, b).")
	want := "base anc(9, 9). par(1, 2). par(1, b). par(2, 3). z.; model anc(1, 2). anc(1, 3). anc(1, b). anc(2, 3). anc(9, 9). par(1, 2). par(1, b). par(2, 3). z.; doubted "
	if got := whole(x); got != want {
		t.Errorf("%s; want %s", got, want)
	}
	if got := whole(viewOf(t, "", "")); got != "base ; model ; doubted " {
		t.Errorf("of nothing: %s", got)
	}
	if got := whole(viewOf(t, "p(1). q(X) :- p(X).", "")); got != "base ; model p(1). q(1).; doubted " {
		t.Errorf("of rules alone: %s", got)
	}
}

// P24.1, R3: of a view that isn't there.
func TestNotThere(t *testing.T) {
	for _, x := range []*change.View{nil, {}, new(change.View)} {
		if len(x.Base())+len(x.Facts())+len(x.Doubted()) != 0 || x.Clone() != nil {
			t.Errorf("a view that isn't there: %s", whole(x))
		}
		for _, l := range [][]api.Fact{nil, {nums("e", 1)}, {{}}, {fact("E", api.Value{Kind: 9})}} {
			if d, err := x.Turn(l, l); err != api.ErrNil || len(d.Added)+len(d.Removed) != 0 {
				t.Errorf("a turn of a view that isn't there: %v, %d", d, err)
			}
		}
		if len(x.Base())+len(x.Facts())+len(x.Doubted()) != 0 || x.Clone() != nil {
			t.Errorf("a view that isn't there is there behind a turn: %s", whole(x))
		}
	}
}

// P24.4, P24.6: turns one behind the other: each doubts by itself.
func TestTurns(t *testing.T) {
	x := viewOf(t, ancestors+"root(X) :- par(X, _), not anc(_, X). n(count()) :- root(X).", "par(1, 2).")
	for _, c := range [][3]string{
		{"par(2, 3). par(4, 3).", "", "anc(1, 3). anc(2, 3). anc(4, 3). n(2). par(2, 3). par(4, 3). root(4). | n(1). | n(1)."},
		{"", "par(1, 2).", "root(2). | anc(1, 2). anc(1, 3). par(1, 2). root(1). | anc(1, 2). anc(1, 3). par(1, 2). root(1)."},
		{"par(2, 3). par(2, 3).", "par(7, 7). par(4, 3). par(4, 3).", "n(1). | anc(4, 3). n(2). par(4, 3). root(4). | anc(4, 3). n(2). par(4, 3). root(4)."},
		{"", "", " |  | "},
		{"par(3, 2).", "", "anc(2, 2). anc(3, 2). anc(3, 3). par(3, 2). | n(1). root(2). | n(1). root(2)."},
		{"", "par(3, 2). par(2, 3).", " | anc(2, 2). anc(2, 3). anc(3, 2). anc(3, 3). par(2, 3). par(3, 2). | anc(2, 2). anc(2, 3). anc(3, 2). anc(3, 3). par(2, 3). par(3, 2)."},
	} {
		if got := told(mustTurn(t, x, factsOf(t, c[0]), factsOf(t, c[1])), x); got != c[2] {
			t.Errorf("add %s, remove %s: %s; want %s", c[0], c[1], got, c[2])
		}
	}
	if got := whole(x); got != "base ; model ; doubted "+show(x.Doubted()) {
		t.Errorf("at the end: %s", got)
	}
}

// P24.7: a clone is the same, and goes on by itself.
func TestClone(t *testing.T) {
	x := viewOf(t, ancestors, "par(1, 2). par(2, 3).")
	mustTurn(t, x, nil, factsOf(t, "par(2, 3)."))
	y := x.Clone()
	before := whole(x)
	if whole(y) != before || before != "base par(1, 2).; model anc(1, 2). par(1, 2).; doubted anc(1, 3). anc(2, 3). par(2, 3)." {
		t.Fatalf("the clone has %s; the view %s", whole(y), before)
	}
	mustTurn(t, x, factsOf(t, "par(0, 1)."), nil)
	if whole(y) != before {
		t.Errorf("a turn of the view touches the clone: %s", whole(y))
	}
	after := whole(x)
	d := mustTurn(t, y, nil, factsOf(t, "par(1, 2)."))
	if whole(x) != after || told(d, y) != " | anc(1, 2). par(1, 2). | anc(1, 2). par(1, 2)." {
		t.Errorf("the clone: %s; the view behind it: %s", told(d, y), whole(x))
	}
	if z := y.Clone(); whole(z) != whole(y) || z == y {
		t.Errorf("a clone's clone has %s", whole(z))
	}
}

// chain is par from each number to the next one.
func chain(n int) []api.Fact {
	var out []api.Fact
	for i := range n {
		out = append(out, nums("par", i, i+1))
	}
	return out
}

// P24.5: where much has been worked out, a turn tries just what has turned: to work all out anew each time would take minutes.
func TestLongChains(t *testing.T) {
	const long = 100
	p := programOf(t, "anc(X, Y) :- par(X, Y). anc(X, Z) :- anc(X, Y), anc(Y, Z). last(X) :- par(_, X), not par(X, _). n(count()) :- anc(X, Y).")
	x := mustNew(t, p, chain(long))
	before := show(x.Facts())
	for i := range 8 {
		first, last := chain(i + 1)[i:], chain(long - i)[long-i-1:]
		gone := mustTurn(t, x, nil, append(first, last...))
		// each pair that lies on both sides of one of the two, the two themselves, the count, and at first the chain's end
		want := 2*(i+1)*(long-i) - (i+1)*(i+1) + 3
		if i == 0 {
			want++
		}
		if len(gone.Removed) != want || show(x.Doubted()) != show(gone.Removed) {
			t.Fatalf("without %s and %s %d facts went, %d were doubted; want %d", show(first), show(last), len(gone.Removed), len(x.Doubted()), want)
		}
		come := mustTurn(t, x, append(first, last...), nil)
		if show(gone.Removed) != show(come.Added) || show(gone.Added) != show(come.Removed) {
			t.Fatalf("%s and %s: %d facts went, %d came", show(first), show(last), len(gone.Removed), len(come.Added))
		}
	}
	if show(x.Facts()) != before {
		t.Errorf("the model is another one behind the turns")
	}
}

// P24.5: many levels, of which a turn stirs few or all.
func TestManyLevels(t *testing.T) {
	var source strings.Builder
	const levels = 150
	for i := range levels {
		source.WriteString("p" + strconv.Itoa(i+1) + "(X) :- e(X), not p" + strconv.Itoa(i) + "(X). ")
	}
	p := programOf(t, source.String())
	x := mustNew(t, p, factsOf(t, "e(1). e(2)."))
	for _, c := range []struct {
		add, remove string
		added       int
		removed     int
	}{
		{"p0(1).", "", 1 + levels/2, levels / 2},
		{"p0(7).", "", 1, 0},
		{"", "p0(1).", levels / 2, 1 + levels/2},
		{"e(3).", "e(2).", 1 + levels/2, 1 + levels/2},
		{"p75(1). p75(2).", "", 1, 0},
	} {
		d := mustTurn(t, x, factsOf(t, c.add), factsOf(t, c.remove))
		if len(d.Added) != c.added || len(d.Removed) != c.removed || !model.Is(p, x.Base(), x.Facts()) {
			t.Errorf("add %s, remove %s: %d came, %d went; want %d, %d", c.add, c.remove, len(d.Added), len(d.Removed), c.added, c.removed)
		}
	}
}
