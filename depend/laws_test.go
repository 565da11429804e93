package depend_test

import (
	"slices"
	"testing"

	"pedigree/api"
	"pedigree/check"
	"pedigree/depend"
)

// dice answers numbers below n, the same ones in every run.
type dice uint64

func (d *dice) below(n int) int {
	*d = *d*6364136223846793005 + 1442695040888963407
	return int(uint64(*d)>>33) % n
}

func pick[T any](d *dice, l ...T) T { return l[d.below(len(l))] }

// mixed answers the list in any order.
func mixed[T any](d *dice, l []T) []T {
	out := slices.Clone(l)
	for i := range out {
		j := d.below(i + 1)
		out[i], out[j] = out[j], out[i]
	}
	return out
}

// chances are how often, in a hundred, something stands in a rule: so that some programs have levels, and others none.
type chances struct{ preds, rules, not, agg, make int }

func anyChances(d *dice) chances {
	c := chances{preds: 1 + d.below(8), rules: d.below(9)}
	c.not, c.agg, c.make = pick(d, 0, 5, 30, 100), pick(d, 0, 5, 30), pick(d, 0, 5, 30)
	return c
}

func (c chances) name(d *dice) string {
	return [...]string{"a", "b", "c", "d", "e", "f", "g", "h"}[d.below(c.preds)]
}

func one() api.Literal { return eq(ex(v("V")), op(api.OpAdd, ex(n(1)), ex(n(1)))) }

// rule makes one that may be used.
func (c chances) rule(d *dice) api.Rule {
	r := rule(c.name(d), nil)
	for range d.below(4) {
		name := c.name(d)
		if d.below(100) < c.not {
			r.Body = append(r.Body, not(name, v("_")))
		} else {
			r.Body = append(r.Body, pos(name, pick(d, v("X"), v("_"), n(1))))
		}
		if d.below(8) == 0 {
			r.Body = append(r.Body, eq(ex(n(1)), ex(n(2))))
		}
	}
	if d.below(100) < c.agg {
		r.Head = append(r.Head, api.Arg{Agg: api.AggCount})
	}
	if d.below(100) < c.make {
		r.Head = append(r.Head, api.Arg{Term: v("V")})
		r.Body = mixed(d, append(r.Body, one()))
	}
	return r
}

func anyProgram(d *dice) api.Program {
	c := anyChances(d)
	var p api.Program
	for range c.rules {
		p.Rules = append(p.Rules, c.rule(d))
	}
	if len(p.Rules) > 0 && d.below(5) == 0 {
		p.Rules = append(p.Rules, pick(d, p.Rules...))
	}
	return p
}

// holdAgainstSlow asks all calls, and answers the error of Levels.
func holdAgainstSlow(t *testing.T, p api.Program) api.Errno {
	t.Helper()
	if got, want := depend.Edges(p), slowEdges(p); told(got) != told(want) {
		t.Fatalf("Edges(%s) = %s; want %s", brief(p), showEdges(got), showEdges(want))
	}
	if got, want := depend.Parts(p), slowParts(p); told(got) != told(want) {
		t.Fatalf("Parts(%s) = %s; want %s", brief(p), showParts(got), showParts(want))
	}
	levels, at, err := depend.Levels(p)
	if want, wantAt, code := slowLevels(p); told(levels) != told(want) || at != wantAt || err != code {
		t.Fatalf("Levels(%s) = %s, %d, %d; want %s, %d, %d", brief(p), showLevels(levels), at, err, showLevels(want), wantAt, code)
	}
	edges := slowEdges(p)
	for _, x := range append(slowPreds(p), "nobody", "") {
		if got, want := depend.Reach(p, x), slowReach(edges, x); !slices.Equal(got, want) {
			t.Fatalf("Reach(%s, %q) = %q; want %q", brief(p), x, got, want)
		}
	}
	ahead, plain := depend.Split(p)
	if one, two := slowSplit(p); told(ahead) != told(one) || told(plain) != told(two) {
		t.Fatalf("Split(%s) = %s, %s", brief(p), brief(ahead), brief(plain))
	}
	if got := depend.OneLevel(p.Rules); got != slowOneLevel(p.Rules) {
		t.Fatalf("OneLevel(%s) = %v", brief(p), got)
	}
	if got := depend.Plain(p.Rules); got != slowPlain(p.Rules) {
		t.Fatalf("Plain(%s) = %v", brief(p), got)
	}
	return err
}

// P9.2 to P9.7: programs whose rules may be used.
func TestHeldAgainstSlow(t *testing.T) {
	d := dice(1)
	errors, split, flat := map[api.Errno]int{}, map[[2]bool]int{}, map[[2]bool]int{}
	for range 6000 {
		p := anyProgram(&d)
		for _, r := range p.Rules {
			if err := check.Rule(r); err != api.OK && err != api.ErrSafe {
				t.Fatalf("%s: %d", brief(r), err)
			}
		}
		errors[holdAgainstSlow(t, p)]++
		ahead, plain := depend.Split(p)
		split[[2]bool{len(ahead.Rules) > 0, len(plain.Rules) > 0}]++
		flat[[2]bool{depend.OneLevel(p.Rules), depend.Plain(p.Rules)}]++
	}
	for _, code := range []api.Errno{api.OK, api.ErrNegCycle, api.ErrAggCycle, api.ErrMakeCycle} {
		if errors[code] < 100 {
			t.Errorf("the error %d: %d times", code, errors[code])
		}
	}
	if len(split) != 4 || split[[2]bool{true, true}] < 500 || flat[[2]bool{true, true}] < 500 || flat[[2]bool{true, false}] < 100 || flat[[2]bool{false, false}] < 500 {
		t.Errorf("%v, %v", split, flat)
	}
}

// bare is a rule that agrees with one in what is looked at, and in nothing else.
func bare(d *dice, r api.Rule) api.Rule {
	out := rule(r.Pred, nil)
	for _, l := range r.Body {
		if l.Kind == api.LPos || l.Kind == api.LNot {
			out.Body = append(out.Body, api.Literal{Kind: l.Kind, Atom: atom(l.Atom.Pred)})
		}
	}
	if slowAggregate(r) {
		out.Head = append(out.Head, api.Arg{Agg: api.AggCount})
	}
	if check.Makes(r) {
		out.Head = append(out.Head, api.Arg{Term: v("V")})
		out.Body = append([]api.Literal{one()}, out.Body...)
		return out
	}
	// It makes no values, whatever else is wrong with it.
	for range d.below(3) {
		odd := pos("odd", v("odd"))
		odd.Kind = pick[api.LitKind](d, api.LNone, api.LCmp, 4, -1)
		out.Body = slices.Insert(out.Body, d.below(len(out.Body)+1), odd)
	}
	return out
}

// P9.1: programs that agree in what is looked at.
func TestWhatIsLookedAt(t *testing.T) {
	d := dice(2)
	w := &wild{dice(3)}
	for range 3000 {
		p := anyProgram(&d)
		if d.below(2) == 0 {
			p = w.program()
		}
		var q api.Program
		for _, r := range p.Rules {
			q.Rules = append(q.Rules, bare(&d, r))
		}
		one, oneAt, oneErr := depend.Levels(p)
		two, twoAt, twoErr := depend.Levels(q)
		if told(depend.Edges(p)) != told(depend.Edges(q)) || told(depend.Parts(p)) != told(depend.Parts(q)) || told(one) != told(two) || oneAt != twoAt || oneErr != twoErr {
			t.Fatalf("%s and %s", brief(p), brief(q))
		}
		for _, x := range append(slowPreds(p), "nobody") {
			if !slices.Equal(depend.Reach(p, x), depend.Reach(q, x)) {
				t.Fatalf("Reach of %s and %s, %q", brief(p), brief(q), x)
			}
		}
	}
}

// levelsOf has one entry a predicate.
func levelsOf(l []api.Level) map[string]int32 {
	out := map[string]int32{}
	for _, x := range l {
		out[x.Pred] = x.N
	}
	return out
}

// hasReason says whether a predicate comes, within its level, to one from which a strict step leads to the level right below.
func hasReason(edges []api.Edge, levels map[string]int32, pred string) bool {
	level := levels[pred]
	within := []string{pred}
	for i := 0; i < len(within); i++ {
		for _, e := range edges {
			if e.From != within[i] {
				continue
			}
			if e.Kind != api.EdgePlain && levels[e.To] == level-1 {
				return true
			}
			if levels[e.To] == level && !slices.Contains(within, e.To) {
				within = append(within, e.To)
			}
		}
	}
	return false
}

// P9.8: levels along every step, and each level's reason.
func TestLevelsAlongSteps(t *testing.T) {
	d := dice(4)
	count := map[int32]int{}
	for range 10000 {
		p := anyProgram(&d)
		l, _, err := depend.Levels(p)
		if err != api.OK {
			continue
		}
		edges, levels := depend.Edges(p), levelsOf(l)
		for _, e := range edges {
			if levels[e.To] > levels[e.From] || e.Kind != api.EdgePlain && levels[e.To] == levels[e.From] {
				t.Fatalf("%s: %s; %s", brief(p), showLevels(l), showEdges([]api.Edge{e}))
			}
		}
		for _, x := range l {
			if x.N < 0 || x.N > 0 && !hasReason(edges, levels, x.Pred) {
				t.Fatalf("%s: %s: there is no reason for that of %s", brief(p), showLevels(l), x.Pred)
			}
			count[x.N]++
		}
	}
	if count[0] < 1000 || count[1] < 1000 || count[2] < 100 || count[3] < 20 {
		t.Errorf("%v", count)
	}
}

// partsOf says of each predicate where its part stands.
func partsOf(l [][]string) map[string]int {
	out := map[string]int{}
	for i, names := range l {
		for _, x := range names {
			out[x] = i
		}
	}
	return out
}

// P9.8: there are levels just if no strict edge lies within a part; within a part all have one level; each part is behind those to which it comes.
func TestLevelsAndParts(t *testing.T) {
	d := dice(5)
	count := map[api.Errno]int{}
	for range 10000 {
		p := anyProgram(&d)
		parts := depend.Parts(p)
		places := partsOf(parts)
		l, _, err := depend.Levels(p)
		within := false
		for _, e := range depend.Edges(p) {
			within = within || e.Kind != api.EdgePlain && places[e.From] == places[e.To]
			if places[e.From] < places[e.To] {
				t.Fatalf("%s: %s", brief(p), showParts(parts))
			}
		}
		if within != (err != api.OK) {
			t.Fatalf("%s: %s, %d", brief(p), showParts(parts), err)
		}
		levels := levelsOf(l)
		for _, names := range parts {
			for _, x := range names {
				if levels[x] != levels[names[0]] {
					t.Fatalf("%s: %s, %s", brief(p), showParts(parts), showLevels(l))
				}
			}
		}
		count[err]++
	}
	if count[api.OK] < 1000 || count[api.ErrNegCycle] < 1000 {
		t.Errorf("%v", count)
	}
}

// P9.8, P0.4: the rules in any order, and twice.
func TestOrderIsNothing(t *testing.T) {
	d := dice(6)
	count := map[bool]int{}
	for range 5000 {
		p := anyProgram(&d)
		q := program(mixed(&d, append(p.Rules, mixed(&d, p.Rules)[:d.below(len(p.Rules)+1)]...))...)
		one, _, err := depend.Levels(p)
		two, _, errTwo := depend.Levels(q)
		if told(depend.Parts(p)) != told(depend.Parts(q)) || told(one) != told(two) || (err == api.OK) != (errTwo == api.OK) {
			t.Fatalf("%s and %s: %s, %s", brief(p), brief(q), showParts(depend.Parts(q)), showLevels(two))
		}
		for _, x := range append(slowPreds(p), "nobody") {
			if !slices.Equal(depend.Reach(p, x), depend.Reach(q, x)) {
				t.Fatalf("Reach of %s and %s, %q", brief(p), brief(q), x)
			}
		}
		if depend.OneLevel(p.Rules) != depend.OneLevel(q.Rules) || depend.Plain(p.Rules) != depend.Plain(q.Rules) {
			t.Fatalf("OneLevel or Plain of %s and %s", brief(p), brief(q))
		}
		_, plain := depend.Split(p)
		_, plainTwo := depend.Split(q)
		if !slices.Equal(headsOf(plain), headsOf(plainTwo)) {
			t.Fatalf("Split of %s and %s", brief(p), brief(q))
		}
		count[err == api.OK]++
	}
	if count[true] < 1000 || count[false] < 1000 {
		t.Errorf("%v", count)
	}
}

// headsOf are the predicates of the rules, rising.
func headsOf(p api.Program) []string {
	var out []string
	for _, r := range p.Rules {
		out = append(out, r.Pred)
	}
	slices.Sort(out)
	return slices.Compact(out)
}

// P9.8: Split's second program is plain, the first does not lean on it, and has the same levels.
func TestSplitFollows(t *testing.T) {
	d := dice(7)
	both, same := 0, 0
	for range 10000 {
		p := anyProgram(&d)
		ahead, plain := depend.Split(p)
		if !depend.Plain(plain.Rules) {
			t.Fatalf("%s: %s is not plain", brief(p), brief(plain))
		}
		heads := headsOf(plain)
		for _, x := range slowPreds(ahead) {
			if slices.Contains(heads, x) {
				t.Fatalf("%s: the first program leans on %s", brief(p), x)
			}
		}
		l, _, err := depend.Levels(p)
		first, _, errFirst := depend.Levels(ahead)
		if err != api.OK {
			continue
		}
		levels := levelsOf(l)
		for _, x := range first {
			if levels[x.Pred] != x.N {
				t.Fatalf("%s: %s, but %s", brief(p), showLevels(l), showLevels(first))
			}
		}
		if errFirst != api.OK {
			t.Fatalf("%s: the first program has no levels", brief(p))
		}
		same += len(first)
		if len(ahead.Rules) > 0 && len(plain.Rules) > 0 {
			both++
		}
	}
	if both < 500 || same < 1000 {
		t.Errorf("%d, %d", both, same)
	}
}
