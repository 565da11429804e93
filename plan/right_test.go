package plan_test

import (
	"math"
	"slices"
	"strconv"
	"strings"
	"testing"

	"pedigree/api"
	"pedigree/plan"
)

// read is the other way round than show.
func read(t *testing.T, s string) []api.Step {
	t.Helper()
	kinds := []string{"none", "scan", "look", "has", "absent", "test", "set"}
	var out []api.Step
	for _, part := range strings.Split(s, "; ") {
		words := strings.Fields(part)
		if len(words) == 0 {
			continue
		}
		kind := slices.Index(kinds, words[0])
		lit, err1 := strconv.Atoi(words[1])
		known, err2 := strconv.Atoi(words[2])
		if kind < 0 || err1 != nil || err2 != nil {
			t.Fatalf("no step: %s", part)
		}
		out = append(out, api.Step{Kind: api.StepKind(kind), Lit: lit, Known: api.Mask(known), Gives: words[3:]})
	}
	return out
}

func wantRight(t *testing.T, p api.Plan, known []string, want bool) {
	t.Helper()
	if got := plan.Right(p, known); got != want {
		t.Errorf("Right(%s with %s, %q) = %v", brief(p.Rule), show(p.Steps), brief(known), got)
	}
}

// P12.4: the chapter's examples.
func TestRightExamples(t *testing.T) {
	a := ruleOf(t, ancestor)
	p := api.Plan{Rule: a, Steps: read(t, "scan 1 0 Z Y; look 0 2 X")}
	wantRight(t, p, nil, true)
	wantRight(t, p, names("Z"), false)
	wantRight(t, api.Plan{Rule: a, Steps: read(t, "scan 1 0 Y Z; look 0 2 X")}, nil, false)
}

// P12.4: plans in whatever order, and plans that are not right at one turn.
func TestRight(t *testing.T) {
	for _, row := range []struct {
		source, known, steps string
		want                 bool
	}{
		{mixed, "", "scan 2 0 X M; set 0 0 N; absent 1 1; test 3 0; look 4 6", true},
		{mixed, "", "scan 2 0 X M; look 4 6; test 3 0; absent 1 1; set 0 0 N", true},
		{mixed, "", "scan 4 0 X; look 2 1 M; test 3 0; set 0 0 N; absent 1 1", true},
		{mixed, "", "scan 4 0 X; absent 1 1; set 0 0 N; look 2 1 M; test 3 0", false}, // N is set ahead of M
		{mixed, "", "absent 1 1; scan 4 0 X; look 2 1 M; set 0 0 N; test 3 0", false}, // X is not known
		{mixed, "", "absent 1 0; scan 4 0 X; look 2 1 M; set 0 0 N; test 3 0", false},
		{mixed, "", "test 3 0; scan 2 0 X M; set 0 0 N; absent 1 1; look 4 6", false},
		{mixed, "X", "absent 1 1; look 4 6; look 2 1 M; test 3 0; set 0 0 N", true},
		{mixed, "M", "set 0 0 N; test 3 0; look 2 2 X; look 4 6; absent 1 1", true},
		{mixed, "M N", "test 0 0; test 3 0; look 2 2 X; look 4 6; absent 1 1", true},
		{mixed, "M N", "set 0 0 N; test 3 0; look 2 2 X; look 4 6; absent 1 1", false},
		{mixed, "M N", "set 0 0; test 3 0; look 2 2 X; look 4 6; absent 1 1", false},
		{mixed, "N", "set 0 0 M; test 3 0; look 2 2 X; look 4 6; absent 1 1", false}, // M + 1 is no lone variable
		{"p.", "", "", true},
		{"p(X).", "X Y", "", true},
		{"p(X).", "", "", false},
		{"p(X).", "Y", "", false},
		{"p.", "", "has 0 0", false},
		{"p.", "", "none 0 0", false},
		{"p :- q.", "", "has 0 0", true},
		{"p :- q.", "", "scan 0 0", false},
		{"p :- q.", "", "look 0 0", false},
		{"p :- q(_).", "", "scan 0 0", true},
		{"p :- q(_).", "", "has 0 1", false},
		{"p :- q(_).", "", "look 0 0", false},
		{"p :- q(_).", "", "scan 0 0 _", false},
		{"p :- q(1).", "", "has 0 1", true},
		{"p :- q(1).", "", "look 0 1", false},
		{"p :- q(1, _).", "", "look 0 1", true},
		{"p :- q(1, _).", "", "scan 0 0", false},
		{"p :- q(X, X).", "", "scan 0 0 X", true},
		{"p :- q(X, X).", "", "scan 0 0 X X", false},
		{"p :- q(X, X).", "", "look 0 2 X", false},
		{"p :- q(X, X).", "X", "has 0 3", true},
		{"p :- q(X, X).", "X", "scan 0 0 X", false},
		{"p :- not q(_, 1).", "", "absent 0 2", true},
		{"p :- not q(_, 1).", "", "absent 0 0", false},
		{"p :- not q(_, 1).", "", "look 0 2", false},
		{"p :- not q(_, 1).", "", "test 0 2", false},
		{"p :- not q(X).", "X", "absent 0 1", true},
		{"p :- not q(X).", "", "absent 0 0", false}, // not safe
		{"p :- X = Y, X = 1, Y = 2.", "", "set 1 0 X; set 0 0 Y; test 2 0", true},
		{"p :- X = Y, X = 1, Y = 2.", "", "set 1 0 X; set 2 0 Y; test 0 0", true},
		{"p :- X = Y, X = 1, Y = 2.", "", "set 2 0 Y; set 0 0 X; test 1 0", true},
		{"p :- X = Y, X = 1, Y = 2.", "", "set 0 0 X; test 1 0; set 2 0 Y", false},
		{"p :- X = Y, X = 1, Y = 2.", "", "test 0 0; set 1 0 X; set 2 0 Y", false},
		{"p :- X = Y, X = 1, Y = 2.", "Y", "set 0 0 X; test 1 0; test 2 0", true},
		{"p :- X = X, q(X).", "", "scan 1 0 X; test 0 0", true},
		{"p :- X = X, q(X).", "", "set 0 0 X; has 1 1", false},
		{"p :- X < 1, q(X).", "", "set 0 0 X; has 1 1", false},
		{"p :- X < 1, q(X).", "", "none 0 0; scan 1 0 X", false},
		{"p :- not r(X), q(X).", "", "none 0 0; scan 1 0 X", false},
		{"p :- q(X), q(X).", "", "scan 0 0 X; has 1 1", true},
		{"p :- q(X), q(X).", "", "scan 1 0 X; has 0 1", true},
		{"p :- q(X), q(X).", "", "scan 0 0 X; has 0 1", false},
		{"p :- q(X), q(X).", "", "scan 0 0 X", false},
		{"p :- q(X), q(X).", "", "scan 0 0 X; has 1 1; has 1 1", false},
		{"p :- q(X), q(X).", "", "", false},
	} {
		wantRight(t, api.Plan{Rule: ruleOf(t, row.source), Steps: read(t, row.steps)}, names(row.known), row.want)
	}
}

// turned answers the plan with another step in one place.
func turned(p api.Plan, at int, s api.Step) api.Plan {
	p.Steps = slices.Clone(p.Steps)
	p.Steps[at] = s
	return p
}

// wantRefused asks Right of a right plan that is turned in one thing, whatever it is.
func wantRefused(t *testing.T, p api.Plan, known []string) {
	t.Helper()
	wantRight(t, p, known, true)
	for i, s := range p.Steps {
		for kind := api.StepKind(-1); kind < 9; kind++ {
			wrong := s
			if wrong.Kind = kind; kind != s.Kind {
				wantRight(t, turned(p, i, wrong), known, false)
			}
		}
		for bit := range 32 {
			wrong := s
			wrong.Known ^= 1 << bit
			wantRight(t, turned(p, i, wrong), known, false)
		}
		for _, lit := range append(firstThatAreNone(len(p.Rule.Body)), -1, math.MinInt32) {
			wrong := s
			wrong.Lit = lit
			wantRight(t, turned(p, i, wrong), known, false)
		}
		for j, other := range p.Steps {
			wrong := s
			if wrong.Lit = other.Lit; i != j {
				wantRight(t, turned(p, i, wrong), known, false)
				wantRight(t, turned(p, i, other), known, false)
			}
		}
		wantGivesRefused(t, p, i, known)
		short, long := p, p
		short.Steps = slices.Delete(slices.Clone(p.Steps), i, i+1)
		wantRight(t, short, known, false)
		long.Steps = slices.Insert(slices.Clone(p.Steps), i, s)
		wantRight(t, long, known, false)
		long.Steps = append(slices.Clone(p.Steps), s)
		wantRight(t, long, known, false)
	}
	long := p
	long.Steps = append(slices.Clone(p.Steps), api.Step{})
	wantRight(t, long, known, false)
	long.Steps = append([]api.Step{{}}, p.Steps...)
	wantRight(t, long, known, false)
}

func wantGivesRefused(t *testing.T, p api.Plan, at int, known []string) {
	t.Helper()
	gives := p.Steps[at].Gives
	var wrong [][]string
	for _, more := range append([]string{"", "_", "Q", "X"}, gives...) {
		wrong = append(wrong, append(slices.Clone(gives), more), append([]string{more}, gives...))
	}
	for i := range gives {
		wrong = append(wrong, slices.Delete(slices.Clone(gives), i, i+1))
		other := slices.Clone(gives)
		other[i] = "Q"
		wrong = append(wrong, other)
		for j := range i {
			other := slices.Clone(gives)
			other[i], other[j] = other[j], other[i]
			wrong = append(wrong, other)
		}
	}
	for _, l := range wrong {
		s := p.Steps[at]
		s.Gives = l
		wantRight(t, turned(p, at, s), known, false)
	}
}

// P12.4: a plan that is turned in one thing is not right.
func TestRightTurned(t *testing.T) {
	for _, row := range []struct {
		source, known string
		first         int
	}{
		{ancestor, "", -1},
		{ancestor, "", 1},
		{ancestor, "Y X", -1},
		{mixed, "", -1},
		{mixed, "", 4},
		{mixed, "N", -1},
		{mixed, "N M X", 2},
		{"p.", "", -1},
		{"p(X) :- q.", "X Z", -1},
		{"p(X) :- e(X, X, 3).", "", -1},
		{"p :- q(X, Y, Z, _, 1), r(Z, X, Y), not s(_, X, a), X < Y, Z = X + Y, W = Z.", "", 1},
		{"p(sum(W), X) :- q(X, Y, Z, _, 1), r(Z, X, Y), not s(_, X, a), X < Y, Z = X + Y, W = Z.", "X", -1},
	} {
		p, err := plan.Make(ruleOf(t, row.source), names(row.known), row.first)
		if err != api.OK {
			t.Fatalf("Make(%s, (%s), %d): %d", row.source, row.known, row.first, err)
		}
		wantRefused(t, p, names(row.known))
	}
	most := rule("p", head(many(24)...), slices.Repeat([]api.Literal{pos("q", many(24)...)}, 16)...)
	p, err := plan.Make(most, nil, 7)
	if err != api.OK {
		t.Fatalf("Make of the greatest rule: %d", err)
	}
	wantRefused(t, p, nil)
}

// P12.4: a rule that may not be planned has no plan that is right, and known variables are such, each once.
func TestRightOfWhatMayNotBe(t *testing.T) {
	for _, r := range noRules() {
		wantRight(t, api.Plan{Rule: r}, nil, false)
		wantRight(t, api.Plan{Rule: r}, names("X"), false)
		wantRight(t, api.Plan{Rule: r, Steps: read(t, "scan 0 0 X")}, nil, false)
	}
	wantRight(t, api.Plan{}, nil, false)
	wantRight(t, api.Plan{Rule: rule("p", nil, slices.Repeat([]api.Literal{pos("q")}, 17)...), Steps: seventeen()}, nil, false)
	wantRight(t, api.Plan{Rule: rule("p", nil, slices.Repeat([]api.Literal{pos("q")}, 16)...), Steps: seventeen()[:16]}, nil, true)
	for _, source := range []string{ancestor, "p(X, Y) :- anc(X, Y)."} {
		p, err := plan.Make(ruleOf(t, source), nil, -1)
		if err != api.OK {
			t.Fatalf("%s: %d", source, err)
		}
		for _, known := range noVariables() {
			wantRight(t, p, known, false)
		}
		wantRight(t, p, names("Q"), true)
		wantRight(t, p, names("Q R S_1"), true)
		wantRight(t, p, names("X"), false)
	}
	for _, known := range noVariables() {
		wantRight(t, api.Plan{Rule: ruleOf(t, "p.")}, known, false)
	}
	// Steps that are right, each at its turn, of rules with a variable that nothing limits.
	wantRight(t, api.Plan{Rule: ruleOf(t, "p(Z) :- q(X)."), Steps: read(t, "scan 0 0 X")}, nil, false)
	wantRight(t, api.Plan{Rule: ruleOf(t, "p(Z) :- q(X)."), Steps: read(t, "scan 0 0 X")}, names("Z"), true)
	wantRight(t, api.Plan{Rule: ruleOf(t, "p(sum(Z)) :- q(X)."), Steps: read(t, "scan 0 0 X")}, nil, false)
	wantRight(t, api.Plan{Rule: ruleOf(t, "p(Z)."), Steps: nil}, names("X"), false)
}

// seventeen steps of atoms without columns.
func seventeen() []api.Step {
	var out []api.Step
	for i := range 17 {
		out = append(out, api.Step{Kind: api.StepHas, Lit: i})
	}
	return out
}
