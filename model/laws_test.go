package model_test

import (
	"fmt"
	"slices"
	"testing"

	"pedigree/api"
	"pedigree/depend"
	"pedigree/group"
	"pedigree/model"
	"pedigree/naive"
	"pedigree/semi"
	"pedigree/value"
)

// isRising: do facts rise, each once?
func isRising(l []api.Fact) bool {
	for i := range len(l) - 1 {
		if value.CompareFacts(l[i], l[i+1]) >= 0 {
			return false
		}
	}
	return true
}

func isIn(l []api.Fact, f api.Fact) bool {
	_, ok := slices.BinarySearchFunc(l, f, value.CompareFacts)
	return ok
}

// holdsAll: is each of these among those, which are in order?
func holdsAll(all, some []api.Fact) bool {
	return !slices.ContainsFunc(some, func(f api.Fact) bool { return !isIn(all, f) })
}

// gives is what a rule gives over facts, by the layers below.
func gives(t *testing.T, r api.Rule, l []api.Fact) []api.Fact {
	t.Helper()
	call := naive.Gives
	if hasAggregate(r) {
		call = group.Gives
	}
	out, err := call(r, l)
	if err != api.OK {
		t.Fatalf("Gives(%s, %s): %d", brief(r), brief(show(l)), err)
	}
	return out
}

// P17.6: the model holds the given facts and is closed; each of its facts is given, or given by a rule over it. (P17.2: in order, each once.)
func TestClosed(t *testing.T) {
	d := dice(11)
	more := 0
	for range 1500 {
		p, l := d.leveled(9), d.facts(20)
		all := mustModel(t, p, l)
		if !isRising(all) || !holdsAll(all, l) {
			t.Fatalf("Model(%s, %s) = %s", brief(p.Rules), brief(show(l)), brief(show(all)))
		}
		reasons := slices.Clone(l)
		for _, r := range p.Rules {
			given := gives(t, r, all)
			if !holdsAll(all, given) {
				t.Fatalf("Model(%s, %s) = %s; %s gives %s", brief(p.Rules), brief(show(l)), brief(show(all)), brief(r), brief(show(given)))
			}
			reasons = append(reasons, given...)
		}
		if !holdsAll(value.Facts(reasons), all) {
			t.Fatalf("Model(%s, %s) = %s: one has no reason", brief(p.Rules), brief(show(l)), brief(show(all)))
		}
		more += len(all) - len(value.Facts(l))
	}
	if more < 3000 {
		t.Errorf("%d facts were given by rules alone", more)
	}
}

// P17.6: the model over a model is that model.
func TestModelOverModel(t *testing.T) {
	d := dice(12)
	for range 1000 {
		p, l := d.leveled(9), d.facts(20)
		all := mustModel(t, p, l)
		wantModel(t, p, all, show(all))
		wantIs(t, p, all, all, true)
	}
}

// shuffled are the same in another order, some of them twice.
func shuffled[T any](d *dice, l []T) []T {
	out := slices.Clone(l)
	for range d.below(4) * min(len(l), 1) {
		out = append(out, l[d.below(len(l))])
	}
	for i := range out {
		j := d.below(i + 1)
		out[i], out[j] = out[j], out[i]
	}
	return out
}

// P17.6, P0.4, R6: rules and facts in any order, and twice.
func TestAnyOrder(t *testing.T) {
	d := dice(13)
	for range 800 {
		p, l := d.leveled(9), d.facts(20)
		all := mustModel(t, p, l)
		other := api.Program{Rules: shuffled(&d, p.Rules)}
		wantModel(t, other, shuffled(&d, l), show(all))
		wantModel(t, api.Program{Rules: slices.Concat(p.Rules, p.Rules)}, slices.Concat(l, l), show(all))
		n := int32(d.below(4))
		some, err := model.Upto(p, l, api.Level{N: n})
		if err != api.OK {
			t.Fatalf("Upto: %d", err)
		}
		wantUpto(t, other, shuffled(&d, l), n, show(some))
		q := d.atom(d.pred(ruled()))
		wantAnswers(t, q, shuffled(&d, all), showTuples(model.Answers(q, all)))
	}
}

// P17.6: the rules that are ahead, and then the others over what the first have as their model.
func TestSplit(t *testing.T) {
	d := dice(14)
	both := 0
	for range 1500 {
		p, l := d.leveled(9), d.facts(20)
		ahead, plain := depend.Split(p)
		wantModel(t, plain, mustModel(t, ahead, l), show(mustModel(t, p, l)))
		both += min(len(ahead.Rules), len(plain.Rules), 1)
	}
	if both < 500 {
		t.Errorf("%d programs alone had rules of both kinds", both)
	}
}

// P17.6: up to a level the facts are those that the rules of these levels alone have there; P17.3: each level holds the lower ones, the greatest is the model.
func TestRulesUptoLevel(t *testing.T) {
	d := dice(15)
	for range 800 {
		p, l := d.leveled(9), d.facts(20)
		list, _, err := depend.Levels(p)
		if err != api.OK {
			t.Fatalf("Levels(%s): %d", brief(p.Rules), err)
		}
		levels := map[string]int{}
		for _, x := range list {
			levels[x.Pred] = int(x.N)
		}
		last := greatest(levels)
		var lower []api.Fact
		for n := range last + 1 {
			some := slices.DeleteFunc(slices.Clone(p.Rules), func(r api.Rule) bool { return levels[r.Pred] > n })
			there := uptoLevel(mustModel(t, api.Program{Rules: some}, l), levels, n)
			wantUpto(t, p, l, int32(n), show(there))
			if !holdsAll(there, lower) {
				t.Fatalf("Upto(%s, %s, %d) takes facts of a lower level away", brief(p.Rules), brief(show(l)), n)
			}
			lower = there
		}
		wantModel(t, p, l, show(lower))
		wantUpto(t, p, l, int32(last+1+d.below(5)), show(lower))
	}
}

// P17.2: of rules of one level the model is what a run of theirs answers.
func TestOneLevel(t *testing.T) {
	d := dice(16)
	seen := 0
	for range 3000 {
		p, l := d.leveled(4), d.facts(16)
		if !depend.OneLevel(p.Rules) {
			continue
		}
		all, _, err := semi.Run(p.Rules, l)
		if err != api.OK {
			t.Fatalf("Run(%s, %s): %d", brief(p.Rules), brief(show(l)), err)
		}
		wantModel(t, p, l, show(all))
		seen++
	}
	if seen < 500 {
		t.Errorf("%d programs alone were of one level", seen)
	}
}

// P17.6: of a query all whose terms are blanks the answers are all tuples of its predicate with as many columns; so are those of unlike variables.
func TestBlanks(t *testing.T) {
	d := dice(17)
	for range 1000 {
		p, l := d.leveled(9), d.facts(20)
		all := mustModel(t, p, l)
		for _, pred := range append(given(), ruled()...) {
			for columns := range 4 {
				var want [][]api.Value
				for _, f := range all {
					if f.Pred == pred.Name && len(f.Args) == columns {
						want = append(want, f.Args)
					}
				}
				wantAnswers(t, api.Atom{Pred: pred.Name, Args: slices.Repeat([]api.Term{v("_")}, columns)}, all, showTuples(want))
				wantAnswers(t, api.Atom{Pred: pred.Name, Args: many(columns)}, all, showTuples(want))
			}
		}
	}
}

// dirty answers a copy of a list with room behind it that must stay as it is.
func dirty[T any](l []T, spare T) []T {
	out := append(make([]T, 0, len(l)+3), l...)
	room := out[len(out):cap(out)]
	for i := range room {
		room[i] = spare
	}
	return out
}

func dirtyFacts(l []api.Fact) []api.Fact {
	out := dirty(l, nums("spare", 77))
	for i, f := range out {
		out[i].Args = dirty(f.Args, num(77))
	}
	return out
}

func dirtyExpr(e api.Expr) api.Expr {
	e.Kids = dirty(e.Kids, ex(v("Spare")))
	for i := range e.Kids {
		e.Kids[i] = dirtyExpr(e.Kids[i])
	}
	return e
}

func dirtyProgram(p api.Program) api.Program {
	out := dirty(p.Rules, api.Rule{Pred: "spare"})
	for i, r := range out {
		out[i].Head = dirty(r.Head, api.Arg{Term: v("Spare")})
		out[i].Body = dirty(r.Body, pos("spare"))
		for j, lit := range out[i].Body {
			lit.Atom.Args = dirty(lit.Atom.Args, v("Spare"))
			lit.Left, lit.Right = dirtyExpr(lit.Left), dirtyExpr(lit.Right)
			out[i].Body[j] = lit
		}
	}
	return api.Program{Rules: out}
}

// whole writes facts with their spare room.
func whole(l []api.Fact) string {
	out := show(l[:cap(l)])
	for _, f := range l {
		out += showFact(api.Fact{Pred: f.Pred, Args: f.Args[:cap(f.Args)]})
	}
	return out
}

func wholeProgram(p api.Program) string {
	out := fmt.Sprint(p.Rules[:cap(p.Rules)])
	for _, r := range p.Rules {
		out += "\n" + fmt.Sprint(r.Head[:cap(r.Head)]) + fmt.Sprint(r.Body[:cap(r.Body)])
		for _, lit := range r.Body {
			out += fmt.Sprint(lit.Atom.Args[:cap(lit.Atom.Args)]) + wholeExpr(lit.Left) + wholeExpr(lit.Right)
		}
	}
	return out
}

func wholeExpr(e api.Expr) string {
	out := fmt.Sprint(e.Kids[:cap(e.Kids)])
	for _, kid := range e.Kids {
		out += wholeExpr(kid)
	}
	return out
}

// spoil writes over a list and its spare room.
func spoil[T any](l []T, with T) {
	l = l[:cap(l)]
	for i := range l {
		l[i] = with
	}
}

func spoilFacts(l []api.Fact) {
	for _, f := range l {
		spoil(f.Args, text("spoilt"))
	}
	spoil(l, nums("spoilt", 1))
}

// R4: what is handed in stays as it was, its spare room too; an answer shares no memory with it, nor with another answer.
func TestMemoryOfItsOwn(t *testing.T) {
	d := dice(18)
	for range 400 {
		p, l := dirtyProgram(d.leveled(7)), dirtyFacts(d.facts(16))
		before := wholeProgram(p) + whole(l)
		all := mustModel(t, p, l)
		some, _ := model.Upto(p, l, api.Level{N: 1})
		want, wantSome := show(all), show(some)
		if wholeProgram(p)+whole(l) != before {
			t.Fatalf("what was handed in is turned: %s over %s", brief(p.Rules), brief(show(l)))
		}
		spoilFacts(mustModel(t, p, l))
		other, _ := model.Upto(p, l, api.Level{N: 1})
		spoilFacts(other)
		if show(all) != want || show(some) != wantSome || wholeProgram(p)+whole(l) != before {
			t.Fatalf("an answer shares memory: %s over %s", brief(p.Rules), brief(show(l)))
		}
		spoilFacts(l)
		if show(all) != want || show(some) != wantSome {
			t.Fatalf("an answer shares memory with what was handed in: %s", brief(want))
		}
	}
}

// R4: likewise of Is and Answers.
func TestMemoryOfAnswers(t *testing.T) {
	d := dice(19)
	seen := 0
	for range 1500 {
		p, l := d.leveled(5), d.facts(16)
		m := dirtyFacts(shuffled(&d, mustModel(t, p, l)))
		q := d.atom(d.pred(append(given(), ruled()...)))
		q.Args = dirty(q.Args, v("Spare"))
		before, asked := whole(m), fmt.Sprint(q.Args[:cap(q.Args)])
		wantIs(t, p, l, m, true)
		got := model.Answers(q, m)
		want := showTuples(got)
		for _, x := range model.Answers(q, m) {
			spoil(x, text("spoilt"))
		}
		if showTuples(got) != want || whole(m) != before || fmt.Sprint(q.Args[:cap(q.Args)]) != asked {
			t.Fatalf("Answers(%v, %s) shares memory", q, brief(show(m)))
		}
		for i, x := range got {
			kept := slices.Clone(x)
			spoil(x, text("spoilt"))
			for j := range got {
				if j != i && showTuples(got[j:j+1]) != showTuples(slowAnswers(q, m)[j:j+1]) {
					t.Fatalf("the answers %d and %d of %v share memory", i, j, q)
				}
			}
			copy(x, kept)
		}
		spoilFacts(m)
		if showTuples(got) != want {
			t.Fatalf("Answers(%v, ..) shares memory with the facts: %s", q, want)
		}
		seen += min(len(got), 1)
	}
	if seen < 300 {
		t.Errorf("%d queries alone had answers", seen)
	}
}

// R4: no two lists within one answer share memory.
func TestListsWithinAModel(t *testing.T) {
	p, l := programOf(t, family+" n(X, count(), 5) :- anc(X, Y). k(X, Y) :- anc(X, Y). k(X, X) :- par(X, _)."), factsOf(t, "par(a, b). par(b, c). n(d, 1, 5). k(a, b).")
	want := mustModel(t, p, l)
	for i := range want {
		got := mustModel(t, p, l)
		spoil(got[i].Args, text("spoilt"))
		for j := range got {
			if j != i && showFact(got[j]) != showFact(want[j]) {
				t.Errorf("the facts %d and %d of %s share memory", i, j, show(want))
			}
		}
	}
	if len(want) != 14 {
		t.Errorf("Model: %s", show(want))
	}
}
