package join_test

import (
	"reflect"
	"slices"
	"strconv"
	"strings"
	"testing"

	"pedigree/api"
	"pedigree/join"
	"pedigree/term"
	"pedigree/value"
)

// mustRun is what Run gives.
func mustRun(t *testing.T, w *join.World, p api.Plan, from, to []int) []api.Fact {
	t.Helper()
	l, err := w.Run(p, from, to)
	if err != api.OK {
		t.Fatalf("Run(%s, %v, %v): %d", briefPlan(p), from, to, err)
	}
	return l
}

func mustSolve(t *testing.T, body []api.Literal, l []api.Fact) [][]api.Bind {
	t.Helper()
	out, err := join.Solutions(body, l)
	if err != api.OK {
		t.Fatalf("Solutions(%s, %s): %d", brief(body), brief(show(l)), err)
	}
	return out
}

// bag writes facts in one order, each as often as it stands there.
func bag(l []api.Fact) string { return show(slices.SortedFunc(slices.Values(l), value.CompareFacts)) }

// wantSame holds facts that were told in parts against those that were told at once; in whatever order.
func wantSame(t *testing.T, what string, p api.Plan, got, want []api.Fact) {
	t.Helper()
	if bag(got) != bag(want) {
		t.Fatalf("%s: %s: %s, want %s", briefPlan(p), what, brief(bag(got)), brief(bag(want)))
	}
}

// atomsOf are the numbers of a body's LPos.
func atomsOf(body []api.Literal) []int {
	var out []int
	for i, lit := range body {
		if lit.Kind == api.LPos {
			out = append(out, i)
		}
	}
	return out
}

// joining is a rule of two or three LPos: more would have too many choices.
func (d *dice) joining() api.Rule {
	for {
		r := d.rule(5)
		if n := len(atomsOf(r.Body)); n == 2 || n == 3 {
			return r
		}
	}
}

// P13.7: under a solution all literals hold, and an assignment under which they do is a solution.
func TestWhatSolutionsAre(t *testing.T) {
	d := dice(11)
	are, others := 0, 0
	for range 3000 {
		l, body := d.facts(10), d.rule(4).Body
		found := mustSolve(t, body, l)
		names := term.RuleVars(api.Rule{Body: body})
		isFound := func(binds []api.Bind) bool {
			return slices.ContainsFunc(found, func(x []api.Bind) bool { return slices.Equal(x, binds) })
		}
		for _, binds := range found {
			if !isSolution(body, l, binds) {
				t.Fatalf("%s over %s: %v is no solution", brief(body), brief(show(l)), binds)
			}
			are++
		}
		for range 20 {
			binds := make([]api.Bind, len(names))
			if len(found) > 0 && d.below(2) == 0 {
				copy(binds, found[d.below(len(found))])
			}
			for i, name := range names {
				if binds[i].Var == "" || d.below(3) == 0 {
					binds[i] = api.Bind{Var: name, Val: d.value()}
				}
			}
			if isSolution(body, l, binds) != isFound(binds) {
				t.Fatalf("%s over %s: %v is found: %v", brief(body), brief(show(l)), binds, isFound(binds))
			}
			if !isFound(binds) {
				others++
			}
		}
	}
	if are < 2000 || others < 2000 {
		t.Errorf("%d solutions alone, %d others", are, others)
	}
}

// P13.6: the solutions rise, each once, with the body's variables as they first stand there.
func TestSolutionsRise(t *testing.T) {
	d := dice(12)
	for range 2000 {
		l, body := d.facts(12), d.rule(4).Body
		names := term.RuleVars(api.Rule{Body: body})
		var last []api.Value
		for i, binds := range mustSolve(t, body, l) {
			var row []api.Value
			for j, b := range binds {
				if len(binds) != len(names) || b.Var != names[j] {
					t.Fatalf("%s: the binds %v, want %q", brief(body), binds, names)
				}
				row = append(row, b.Val)
			}
			if len(binds) != len(names) || i > 0 && value.CompareTuples(last, row) >= 0 {
				t.Fatalf("%s: %v stands behind %v", brief(body), binds, last)
			}
			last = row
		}
	}
}

// P13.7: a span that is cut in two; at the LPos that the steps take first the lower part comes first.
func TestOneSpanCut(t *testing.T) {
	d := dice(13)
	cut := 0
	for range 3000 {
		w := worldOf(t, d.facts(40)...)
		p := d.plan(t, d.joining())
		atoms := atomsOf(p.Rule.Body)
		from, to := d.spans(w, p.Rule)
		all := mustRun(t, w, p, from, to)
		first := slices.IndexFunc(p.Steps, func(s api.Step) bool { return slices.Contains(atoms, s.Lit) })
		for _, i := range atoms {
			at := from[i] + d.below(to[i]-from[i]+1)
			lower, upper := slices.Clone(to), slices.Clone(from)
			lower[i], upper[i] = at, at
			below, above := mustRun(t, w, p, from, lower), mustRun(t, w, p, upper, to)
			both := slices.Concat(below, above)
			wantSame(t, "cut in two", p, both, all)
			if p.Steps[first].Lit == i && show(both) != show(all) {
				t.Fatalf("%s: %s, the lower part first: %s", briefPlan(p), show(all), show(both))
			}
			if len(below) > 0 && len(above) > 0 {
				cut++
			}
		}
	}
	if cut < 300 {
		t.Errorf("%d cuts alone had choices on both sides", cut)
	}
}

// P13.7: all spans cut in two: those over the lower parts alone, and for each LPos those whose fact for it lies in its upper part, those ahead in their lower parts, those behind anywhere.
func TestAllSpansCut(t *testing.T) {
	d := dice(14)
	cut := 0
	for range 6000 {
		w := worldOf(t, d.facts(40)...)
		r := d.joining()
		atoms := atomsOf(r.Body)
		from, to := d.spans(w, r)
		at := slices.Clone(from)
		for _, i := range atoms {
			at[i] += d.below(to[i] - from[i] + 1)
		}
		p := d.plan(t, r)
		all := mustRun(t, w, p, from, to)
		parts := mustRun(t, w, d.plan(t, r), from, at)
		some := 0
		for k, i := range atoms {
			begin, end := slices.Clone(from), slices.Clone(to)
			for _, j := range atoms[:k] {
				end[j] = at[j]
			}
			begin[i] = at[i]
			q := planOf(t, r, i) // as one would that goes by what is new
			more := mustRun(t, w, q, begin, end)
			parts = append(parts, more...)
			if len(more) > 0 {
				some++
			}
		}
		wantSame(t, "all cut in two", p, parts, all)
		if some > 1 {
			cut++
		}
	}
	if cut < 150 {
		t.Errorf("%d cuts alone had choices in several parts", cut)
	}
}

// P13.7: whatever right plan a rule has, the facts are the same, each as often.
func TestAnyPlan(t *testing.T) {
	d := dice(15)
	for range 3000 {
		w := worldOf(t, d.facts(14)...)
		r := d.rule(5)
		from, to := d.spans(w, r)
		all := mustRun(t, w, planOf(t, r, -1), from, to)
		for range 3 {
			p := d.plan(t, r)
			wantSame(t, "by another plan", p, mustRun(t, w, p, from, to), all)
		}
	}
}

// P13.7: over whole spans the facts are the rule's head under the solutions of its body.
func TestRunAndSolutions(t *testing.T) {
	d := dice(16)
	for range 3000 {
		l := d.facts(14)
		w := worldOf(t, l...)
		p := d.plan(t, d.rule(5))
		from, to := whole(w, p.Rule)
		var want []api.Fact
		for _, binds := range mustSolve(t, p.Rule.Body, l) {
			want = append(want, headUnder(p.Rule, binds))
		}
		if got := value.Facts(mustRun(t, w, p, from, to)); show(got) != show(value.Facts(want)) {
			t.Fatalf("%s over %s: Run %s, by Solutions %s", briefPlan(p), brief(show(l)), show(got), show(value.Facts(want)))
		}
	}
}

// P13.7: more facts leave what a body without nots gives.
func TestMoreFacts(t *testing.T) {
	d := dice(17)
	grown := 0
	for range 3000 {
		l := d.facts(10)
		w := worldOf(t, l...)
		r := d.rule(5)
		if slices.ContainsFunc(r.Body, func(lit api.Literal) bool { return lit.Kind == api.LNot }) {
			continue
		}
		p := d.plan(t, r)
		from, to := whole(w, r)
		before, solved := mustRun(t, w, p, from, to), mustSolve(t, r.Body, l)
		more := d.facts(5)
		for _, f := range more {
			w.Add(f)
		}
		if show(mustRun(t, w, p, from, to)) != show(before) {
			t.Fatalf("%s: the spans of before give another thing", briefPlan(p))
		}
		from, to = whole(w, r)
		left := mustRun(t, w, p, from, to)
		for _, f := range before {
			i := slices.IndexFunc(left, func(g api.Fact) bool { return value.CompareFacts(f, g) == 0 })
			if i < 0 {
				t.Fatalf("%s over %s: with %s a %s is missing", briefPlan(p), brief(show(l)), show(more), show([]api.Fact{f}))
			}
			left = slices.Delete(left, i, i+1)
		}
		if len(left) > 0 {
			grown++
		}
		now := mustSolve(t, r.Body, slices.Concat(more, l))
		for _, binds := range solved {
			if !slices.ContainsFunc(now, func(x []api.Bind) bool { return slices.Equal(x, binds) }) {
				t.Fatalf("%s over %s: with %s the solution %v is missing", brief(r.Body), brief(show(l)), show(more), binds)
			}
		}
	}
	if grown < 200 {
		t.Errorf("%d runs alone gave more", grown)
	}
}

// P13.7: worlds of the same facts, in whatever order they came, however often.
func TestOrderOfFacts(t *testing.T) {
	d := dice(18)
	for range 2000 {
		l := d.facts(14)
		other := slices.Clone(l)
		for i := range other {
			j := d.below(i + 1)
			other[i], other[j] = other[j], other[i]
		}
		for range d.below(4) * min(len(l), 1) {
			other = append(other, l[d.below(len(l))])
		}
		a, b := worldOf(t, l...), worldOf(t)
		for _, f := range other {
			b.Add(f)
		}
		if show(a.Facts()) != show(b.Facts()) {
			t.Fatalf("Facts %s, in another order %s", brief(show(a.Facts())), brief(show(b.Facts())))
		}
		p := d.plan(t, d.rule(5))
		from, to := whole(a, p.Rule)
		wantSame(t, "in another order", p, mustRun(t, b, p, from, to), mustRun(t, a, p, from, to))
		if x, y := mustSolve(t, p.Rule.Body, l), mustSolve(t, p.Rule.Body, other); showBinds(x) != showBinds(y) {
			t.Fatalf("%s: solutions %s, in another order %s", brief(p.Rule.Body), showBinds(x), showBinds(y))
		}
	}
}

// told writes a thing out; an empty list and nil are the same.
func told(x any) string {
	var out strings.Builder
	tell(&out, reflect.ValueOf(x))
	return out.String()
}

func tell(out *strings.Builder, x reflect.Value) {
	switch {
	case x.Kind() == reflect.Struct:
		for i := range x.NumField() {
			tell(out, x.Field(i))
			out.WriteString(";")
		}
	case x.Kind() == reflect.Slice:
		out.WriteString("[")
		for i := range x.Len() {
			tell(out, x.Index(i))
			out.WriteString(",")
		}
		out.WriteString("]")
	case x.Kind() == reflect.String:
		out.WriteString(strconv.Quote(x.String()))
	case x.CanUint():
		out.WriteString(strconv.FormatUint(x.Uint(), 10))
	default:
		out.WriteString(strconv.FormatInt(x.Int(), 10))
	}
}

// dirty answers a copy of a list with room behind it that must stay as it is.
func dirty[T any](l []T, spare T) []T {
	out := append(make([]T, 0, len(l)+3), l...)
	room := out[len(out):cap(out)]
	for i := range room {
		room[i] = spare
	}
	return out
}

func dirtyFacts(l []api.Fact) []api.Fact {
	out := dirty(l, nums("spare", 77))
	for i, f := range out {
		out[i].Args = dirty(f.Args, num(77))
	}
	return out
}

func dirtyExpr(e api.Expr) api.Expr {
	e.Kids = dirty(e.Kids, ex(v("Spare")))
	for i := range e.Kids {
		e.Kids[i] = dirtyExpr(e.Kids[i])
	}
	return e
}

func dirtyBody(l []api.Literal) []api.Literal {
	out := dirty(l, pos("spare"))
	for i, lit := range out {
		lit.Atom.Args = dirty(lit.Atom.Args, v("Spare"))
		lit.Left, lit.Right = dirtyExpr(lit.Left), dirtyExpr(lit.Right)
		out[i] = lit
	}
	return out
}

func dirtyPlan(p api.Plan) api.Plan {
	p.Rule.Head = dirty(p.Rule.Head, api.Arg{Term: v("Spare")})
	p.Rule.Body = dirtyBody(p.Rule.Body)
	p.Steps = dirty(p.Steps, api.Step{Kind: api.StepHas})
	for i, s := range p.Steps {
		p.Steps[i].Gives = dirty(s.Gives, "Spare")
	}
	return p
}

// withRoom writes a list with its spare room.
func withRoom[T any](l []T) string { return told(l[:cap(l)]) }

func wholeFacts(l []api.Fact) string {
	out := withRoom(l)
	for _, f := range l {
		out += withRoom(f.Args)
	}
	return out
}

func wholeExpr(e api.Expr) string {
	out := withRoom(e.Kids)
	for _, kid := range e.Kids {
		out += wholeExpr(kid)
	}
	return out
}

func wholeBody(l []api.Literal) string {
	out := withRoom(l)
	for _, lit := range l {
		out += withRoom(lit.Atom.Args) + wholeExpr(lit.Left) + wholeExpr(lit.Right)
	}
	return out
}

func wholePlan(p api.Plan) string {
	out := withRoom(p.Rule.Head) + wholeBody(p.Rule.Body) + withRoom(p.Steps)
	for _, s := range p.Steps {
		out += withRoom(s.Gives)
	}
	return out
}

// R4: what is handed in stays as it was, its spare room too.
func TestWhatIsHandedInStays(t *testing.T) {
	d := dice(19)
	for range 1500 {
		l := dirtyFacts(d.facts(8))
		p := dirtyPlan(d.plan(t, d.rule(4)))
		before := wholeFacts(l) + wholePlan(p)
		w := worldOf(t, l...)
		from, to := d.spans(w, p.Rule)
		from, to = dirty(from, 77), dirty(to, 77)
		spans := withRoom(from) + withRoom(to)
		mustRun(t, w, p, from, to)
		w.Run(p, from[:len(from):len(from)], to[:len(to)/2])
		mustSolve(t, p.Rule.Body, l)
		for _, f := range l {
			w.Add(f)
			w.Has(f)
		}
		if wholeFacts(l)+wholePlan(p) != before || withRoom(from)+withRoom(to) != spans {
			t.Fatalf("what was handed in is turned: %s over %s", briefPlan(p), brief(show(l)))
		}
	}
}

// spoil writes over a list and its spare room.
func spoil[T any](l []T, with T) {
	l = l[:cap(l)]
	for i := range l {
		l[i] = with
	}
}

func spoilFacts(l []api.Fact) {
	for _, f := range l {
		spoil(f.Args, text("spoilt"))
	}
	spoil(l, nums("spoilt", 1))
}

func spoilBinds(l [][]api.Bind) {
	for _, binds := range l {
		spoil(binds, api.Bind{Var: "Spoilt"})
	}
	spoil(l, nil)
}

// R4: a world keeps nothing of what was handed in but its content; what it answers is memory of its own.
func TestAnswersAreNewMemory(t *testing.T) {
	d := dice(20)
	for range 1500 {
		l := dirtyFacts(d.facts(8))
		keep := show(value.Facts(l))
		own := slices.Clone(l)
		for i, f := range own {
			own[i].Args = dirty(f.Args, num(77))
		}
		p := d.plan(t, d.rule(4))
		w := worldOf(t, l[:len(l)/2]...)
		for _, f := range l[len(l)/2:] {
			w.Add(f)
		}
		solved := mustSolve(t, p.Rule.Body, l)
		want := showBinds(solved)
		spoilFacts(l)
		wantFacts(t, w, keep)
		from, to := whole(w, p.Rule)
		facts, run := w.Facts(), mustRun(t, w, p, from, to)
		ran := show(run)
		again, more := w.Facts(), mustRun(t, w, p, from, to)
		spoilFacts(again)
		spoilFacts(more)
		if show(facts) != keep || show(run) != ran || showBinds(solved) != want {
			t.Fatalf("answers share memory: %s", briefPlan(p))
		}
		spoilFacts(facts)
		spoilFacts(run)
		wantFacts(t, w, keep)
		wantRun(t, w, p, from, to, ran)
		other := mustSolve(t, p.Rule.Body, own)
		spoilBinds(other)
		if showBinds(solved) != want || show(value.Facts(own)) != keep {
			t.Fatalf("solutions share memory: %s", briefPlan(p))
		}
		wantSolutions(t, p.Rule.Body, own, want)
	}
}

// R4: no two lists within one answer share memory.
func TestListsWithinAnAnswer(t *testing.T) {
	w := worldOf(t, factsOf(t, "e(1, 2). e(2, 3). e(3, 1). f(1).")...)
	r := ruleOf(t, "p(X, 5, Y) :- e(X, Y), f(_).")
	from, to := whole(w, r)
	for _, tell := range []func() []api.Fact{w.Facts, func() []api.Fact { return mustRun(t, w, planOf(t, r, -1), from, to) }} {
		want := tell()
		for i := range want {
			l := tell()
			spoil(l[i].Args, text("spoilt"))
			for j := range l {
				if j != i && show(l[j:j+1]) != show(want[j:j+1]) {
					t.Errorf("the facts %d and %d of %s share memory", i, j, show(want))
				}
			}
		}
	}
	body, facts := bodyOf(t, "e(X, Y), Z = X + Y"), w.Facts()
	want := mustSolve(t, body, facts)
	for i := range want {
		l := mustSolve(t, body, facts)
		spoil(l[i], api.Bind{Var: "Spoilt"})
		for j := range l {
			if j != i && showBinds(l[j:j+1]) != showBinds(want[j:j+1]) {
				t.Errorf("the solutions %d and %d share memory", i, j)
			}
		}
	}
}

// R1: many facts, in rounds that each read what is new; a chain's ends are found by what is known, not by going through all.
func TestManyFacts(t *testing.T) {
	const long = 20000
	w := worldOf(t)
	for i := range int64(long) {
		wantAdd(t, w, nums("e", i, i+1), true, api.OK)
	}
	r := ruleOf(t, "t(X, Z) :- t(X, Y), e(Y, Z), not e(Z, X).")
	p := planOf(t, r, 0)
	wantAdd(t, w, nums("t", 0, 0), true, api.OK)
	for i := range 3000 {
		l := mustRun(t, w, p, []int{i, 0, 0}, []int{i + 1, long, 0})
		if len(l) != 1 || show(l) != show([]api.Fact{nums("t", 0, int64(i+1))}) {
			t.Fatalf("round %d: %s", i, show(l))
		}
		wantAdd(t, w, l[0], true, api.OK)
	}
	if l := w.Facts(); len(l) != long+3001 || w.Size("t") != 3001 || show(l[long-1:long]) != "e "+strconv.Itoa(long-1)+" "+strconv.Itoa(long) {
		t.Errorf("%d facts", len(l))
	}
	both := planOf(t, ruleOf(t, "p(X, Z) :- e(X, Y), e(Y, Z), e(X, Y)."), -1)
	if l := mustRun(t, w, both, []int{0, 0, 1}, []int{long, long, long}); len(l) != long-2 {
		t.Errorf("%d facts", len(l))
	}
}
