package plan_test

import (
	"fmt"
	"math"
	"reflect"
	"slices"
	"strconv"
	"strings"
	"testing"

	"pedigree/api"
	"pedigree/parse"
	"pedigree/plan"
)

const (
	ancestor = "anc(X, Y) :- par(X, Z), anc(Z, Y)."
	mixed    = "p(X, N) :- N = M + 1, not q(X), e(X, M), M > 2, f(_, X, X)."
)

func num(n int64) api.Value { return api.Value{Kind: api.KNum, Num: n} }

func v(name string) api.Term { return api.Term{Var: name} }

func n(k int64) api.Term { return api.Term{Val: num(k)} }

func ex(t api.Term) api.Expr { return api.Expr{Term: t} }

func op(o api.Op, kids ...api.Expr) api.Expr { return api.Expr{Op: o, Kids: kids} }

func pos(pred string, l ...api.Term) api.Literal {
	return api.Literal{Kind: api.LPos, Atom: api.Atom{Pred: pred, Args: l}}
}

func not(pred string, l ...api.Term) api.Literal {
	return api.Literal{Kind: api.LNot, Atom: api.Atom{Pred: pred, Args: l}}
}

func cmp(left api.Expr, rel api.Rel, right api.Expr) api.Literal {
	return api.Literal{Kind: api.LCmp, Rel: rel, Left: left, Right: right}
}

func eq(left, right api.Expr) api.Literal { return cmp(left, api.RelEq, right) }

func head(l ...api.Term) []api.Arg {
	var out []api.Arg
	for _, t := range l {
		out = append(out, api.Arg{Term: t})
	}
	return out
}

func rule(pred string, args []api.Arg, body ...api.Literal) api.Rule {
	return api.Rule{Pred: pred, Head: args, Body: body}
}

// many are so many unlike variables.
func many(count int) []api.Term {
	var out []api.Term
	for i := range count {
		out = append(out, v("V"+strconv.Itoa(i)))
	}
	return out
}

func ruleOf(t *testing.T, source string) api.Rule {
	t.Helper()
	r, fault := parse.Rule(source)
	if (fault != api.Fault{}) {
		t.Fatalf("%s: %v", source, fault)
	}
	return r
}

// names are the words of a text.
func names(s string) []string { return strings.Fields(s) }

// show writes steps as a row of a test has them: the kind, the literal, the columns, what is given.
func show(l []api.Step) string {
	kinds := []string{"none", "scan", "look", "has", "absent", "test", "set"}
	var out []string
	for _, s := range l {
		kind := strconv.Itoa(int(s.Kind))
		if s.Kind >= 0 && int(s.Kind) < len(kinds) {
			kind = kinds[s.Kind]
		}
		out = append(out, strings.Join(append([]string{kind, strconv.Itoa(s.Lit), strconv.Itoa(int(s.Known))}, s.Gives...), " "))
	}
	return strings.Join(out, "; ")
}

// brief cuts off what is too long for a remark.
func brief(x any) string {
	const most = 700
	out := fmt.Sprintf("%+v", x)
	if len(out) > most {
		return out[:most] + " .."
	}
	return out
}

// told writes a thing out; an empty list and nil are the same.
func told(x any) string {
	var out strings.Builder
	tell(&out, reflect.ValueOf(x))
	return out.String()
}

func tell(out *strings.Builder, x reflect.Value) {
	switch {
	case x.Kind() == reflect.Struct:
		for i := range x.NumField() {
			tell(out, x.Field(i))
			out.WriteString(";")
		}
	case x.Kind() == reflect.Slice:
		out.WriteString("[")
		for i := range x.Len() {
			tell(out, x.Index(i))
			out.WriteString(",")
		}
		out.WriteString("]")
	case x.Kind() == reflect.String:
		out.WriteString(strconv.Quote(x.String()))
	case x.CanUint():
		out.WriteString(strconv.FormatUint(x.Uint(), 10))
	default:
		out.WriteString(strconv.FormatInt(x.Int(), 10))
	}
}

// wantSteps asks Make of a rule that may be planned.
func wantSteps(t *testing.T, r api.Rule, known string, first int, want string) {
	t.Helper()
	p, err := plan.Make(r, names(known), first)
	if err != api.OK || show(p.Steps) != want {
		t.Errorf("Make(%s, (%s), %d) = %s, %d; want %s", brief(r), known, first, show(p.Steps), err, want)
	}
	if told(p.Rule) != told(r) {
		t.Errorf("Make(%s, (%s), %d) has the rule %s", brief(r), known, first, brief(p.Rule))
	}
	if !plan.Right(p, names(known)) {
		t.Errorf("Make(%s, (%s), %d) = %s is not Right", brief(r), known, first, show(p.Steps))
	}
}

func wantCode(t *testing.T, r api.Rule, known []string, first int, code api.Errno) {
	t.Helper()
	if p, err := plan.Make(r, known, first); err != code || told(p) != told(api.Plan{}) {
		t.Errorf("Make(%s, %q, %d) = %s, %d; want %d and nothing else", brief(r), brief(known), first, brief(p), err, code)
	}
}

// P12.2: the chapter's examples.
func TestMakeExamples(t *testing.T) {
	a, b := ruleOf(t, ancestor), ruleOf(t, mixed)
	wantSteps(t, a, "", -1, "scan 0 0 X Z; look 1 1 Y")
	wantSteps(t, a, "", 1, "scan 1 0 Z Y; look 0 2 X")
	wantSteps(t, a, "Y X", -1, "look 0 1 Z; has 1 3")
	wantSteps(t, b, "", -1, "scan 2 0 X M; set 0 0 N; absent 1 1; test 3 0; look 4 6")
	wantSteps(t, b, "", 4, "scan 4 0 X; absent 1 1; look 2 1 M; set 0 0 N; test 3 0")
	wantSteps(t, b, "N", -1, "scan 2 0 X M; test 0 0; absent 1 1; test 3 0; look 4 6")
	wantSteps(t, ruleOf(t, "p(X) :- e(X, X, 3)."), "", -1, "look 0 4 X")
	wantSteps(t, ruleOf(t, "p(X)."), "X", -1, "")
	wantSteps(t, ruleOf(t, "p(X) :- q."), "X Z", -1, "has 0 0")
	wantSteps(t, ruleOf(t, "p(X) :- X = Y, Y = 3."), "", -1, "set 1 0 Y; set 0 0 X")
}

// P12.2: what the columns of an atom are, and what it gives.
func TestMakeOfAtoms(t *testing.T) {
	for _, row := range []struct{ source, known, want string }{
		{"p :- q.", "", "has 0 0"},
		{"p :- q(X).", "", "scan 0 0 X"},
		{"p :- q(X).", "X", "has 0 1"},
		{"p :- q(_).", "", "scan 0 0"},
		{"p :- q(_).", "X", "scan 0 0"},
		{"p :- q(_, _).", "", "scan 0 0"},
		{"p :- q(_, 1).", "", "look 0 2"},
		{"p :- q(a, 1).", "", "has 0 3"},
		{"p :- q(\"\").", "", "has 0 1"},
		{"p :- q(X, X).", "", "scan 0 0 X"},
		{"p :- q(X, X).", "X", "has 0 3"},
		{"p :- q(X, _, X).", "X", "look 0 5"},
		{"p :- q(X, _, X).", "", "scan 0 0 X"},
		{"p :- q(Y, X, Y, Z, X).", "", "scan 0 0 Y X Z"},
		{"p :- q(Y, X, Y, Z, X).", "X", "look 0 18 Y Z"},
		{"p :- q(Y, X, Y, Z, X).", "Z Y", "look 0 13 X"},
		{"p :- q(Y, X, Y, Z, X).", "Z Y X", "has 0 31"},
		{"p :- q(X), q(X).", "", "scan 0 0 X; has 1 1"},
		{"p :- q(X, Y), q(Y, Z), q(Z, X).", "", "scan 0 0 X Y; look 1 1 Z; has 2 3"},
		{"p :- q(X), r(Y), s(X, Y, 7, _, Z).", "", "scan 0 0 X; scan 1 0 Y; look 2 7 Z"},
		{"p(sum(Y), X) :- q(X, Y).", "Y", "look 0 2 X"},
		{"p(count()) :- q(X, Y).", "", "scan 0 0 X Y"},
	} {
		wantSteps(t, ruleOf(t, row.source), row.known, -1, row.want)
	}
}

// P12.2: a not waits for all its variables, a blank for nothing.
func TestMakeOfNots(t *testing.T) {
	for _, row := range []struct{ source, known, want string }{
		{"p :- not q.", "", "absent 0 0"},
		{"p :- not q(_).", "", "absent 0 0"},
		{"p :- not q(1, _, a).", "", "absent 0 5"},
		{"p :- not q(X).", "X", "absent 0 1"},
		{"p :- not q(X, _, X, Y).", "Y X", "absent 0 13"},
		{"p :- not q(X, Y), r(X), s(Y).", "", "scan 1 0 X; scan 2 0 Y; absent 0 3"},
		{"p :- not q(X, Y), r(X), s(Y).", "Y", "scan 1 0 X; absent 0 3; has 2 1"},
		{"p :- not q(X, Y), r(X), s(Y).", "X Y", "absent 0 3; has 1 1; has 2 1"},
		{"p :- r(X), not q(X), not q(1), s(Y), not q(Y).", "", "absent 2 1; scan 0 0 X; absent 1 1; scan 3 0 Y; absent 4 1"},
		{"p :- r(X), not q(Y), Y = X.", "", "scan 0 0 X; set 2 0 Y; absent 1 1"},
	} {
		wantSteps(t, ruleOf(t, row.source), row.known, -1, row.want)
	}
}

// P12.2: what a comparison tests, and what an equation gives.
func TestMakeOfComparisons(t *testing.T) {
	for _, row := range []struct{ source, known, want string }{
		{"p :- 1 < 2.", "", "test 0 0"},
		{"p :- 1 = 2.", "", "test 0 0"},
		{"p :- X = 1.", "", "set 0 0 X"},
		{"p :- 1 = X.", "", "set 0 0 X"},
		{"p :- X = 1.", "X", "test 0 0"},
		{"p :- 1 = X.", "X", "test 0 0"},
		{"p :- X = 1 + 2.", "", "set 0 0 X"},
		{"p :- X != 1.", "X", "test 0 0"},
		{"p :- X = Y.", "X", "set 0 0 Y"},
		{"p :- X = Y.", "Y", "set 0 0 X"},
		{"p :- X = Y.", "X Y", "test 0 0"},
		{"p :- X = Y, q(Y).", "", "scan 1 0 Y; set 0 0 X"},
		{"p :- X = Y, q(X).", "", "scan 1 0 X; set 0 0 Y"},
		{"p :- X = Y, q(X, Y).", "", "scan 1 0 X Y; test 0 0"},
		{"p :- X = X.", "X", "test 0 0"},
		{"p :- X = X, q(X).", "", "scan 1 0 X; test 0 0"},
		{"p :- X = X + 1, q(X).", "", "scan 1 0 X; test 0 0"},
		{"p :- X = X + 1, X = 1.", "", "set 1 0 X; test 0 0"},
		{"p :- X + 1 = Y.", "X", "set 0 0 Y"},
		{"p :- Y = X + Z * X.", "Z X", "set 0 0 Y"},
		{"p :- X + 1 = 5, q(X).", "", "scan 1 0 X; test 0 0"},
		{"p :- -X = Y, q(Y), r(X).", "", "scan 1 0 Y; scan 2 0 X; test 0 0"},
		{"p :- X + 0 = Y + 0, q(Y), r(X).", "", "scan 1 0 Y; scan 2 0 X; test 0 0"},
		{"p :- X < Y, X = 1, Y = 2.", "", "set 1 0 X; set 2 0 Y; test 0 0"},
		{"p :- X < Y, q(X), r(Y).", "", "scan 1 0 X; scan 2 0 Y; test 0 0"},
		{"p :- X <= Y, q(X), r(Y).", "X", "has 1 1; scan 2 0 Y; test 0 0"},
		{"p :- Z = Y + X, Y = X * 2, q(X), r(Z).", "", "scan 2 0 X; set 1 0 Y; set 0 0 Z; has 3 1"},
		{"p :- Z = Y, X = Y, Y = 1, X = Z.", "", "set 2 0 Y; set 0 0 Z; set 1 0 X; test 3 0"},
		{"p :- q(X), X = 1.", "", "set 1 0 X; has 0 1"},
	} {
		wantSteps(t, ruleOf(t, row.source), row.known, -1, row.want)
	}
}

// P12.2: the literal that is asked for comes first, whatever it is and whatever else is ready; the others as ever.
func TestMakeFirst(t *testing.T) {
	for _, row := range []struct {
		source, known string
		first         int
		want          string
	}{
		{"p :- q.", "", 0, "has 0 0"},
		{"p :- 1 < 2, q(_), not r.", "", 1, "scan 1 0; test 0 0; absent 2 0"},
		{"p :- X = 1, q(X).", "", 1, "scan 1 0 X; test 0 0"},
		{"p :- X = 1, q(X).", "", -1, "set 0 0 X; has 1 1"},
		{"p :- q(X), q(Y), q(Z).", "", 0, "scan 0 0 X; scan 1 0 Y; scan 2 0 Z"},
		{"p :- q(X), q(Y), q(Z).", "", 1, "scan 1 0 Y; scan 0 0 X; scan 2 0 Z"},
		{"p :- q(X), q(Y), q(Z).", "", 2, "scan 2 0 Z; scan 0 0 X; scan 1 0 Y"},
		{"p :- q(X, Y), not r(X), q(Y, Z), Z < 9, X = Z.", "Z", 2, "look 2 2 Y; test 3 0; set 4 0 X; absent 1 1; has 0 3"},
		{"p :- q(X, Y), not r(X), q(Y, Z), Z < 9, X = Z.", "Z", -1, "test 3 0; set 4 0 X; absent 1 1; look 0 1 Y; has 2 3"},
		{"p :- q(X, Y), not r(X), q(Y, Z), Z < 9, X = Z.", "Z", 0, "scan 0 0 X Y; absent 1 1; test 3 0; test 4 0; has 2 3"},
	} {
		wantSteps(t, ruleOf(t, row.source), row.known, row.first, row.want)
	}
}

// P12.2: as much as a rule may have: columns, literals, variables.
func TestMakeOfMost(t *testing.T) {
	wide := many(24)
	all := ""
	for _, x := range wide {
		all += " " + x.Var
	}
	wantSteps(t, rule("p", head(wide...), pos("q", wide...)), "", -1, "scan 0 0"+all)
	wantSteps(t, rule("p", head(wide...), pos("q", wide...)), all, -1, "has 0 16777215")
	wantSteps(t, rule("p", nil, pos("q", wide...), not("q", wide...)), "", -1, "scan 0 0"+all+"; absent 1 16777215")
	wantSteps(t, rule("p", nil, pos("q", wide...)), "V23", -1, "look 0 8388608"+strings.TrimSuffix(all, " V23"))
	wantSteps(t, rule("p", nil, pos("q", slices.Repeat([]api.Term{v("X")}, 24)...)), "", -1, "scan 0 0 X")
	wantSteps(t, rule("p", nil, pos("q", slices.Repeat([]api.Term{n(1)}, 24)...)), "", -1, "has 0 16777215")
	wantSteps(t, rule("p", nil, pos("q", slices.Repeat([]api.Term{v("_")}, 24)...)), "", -1, "scan 0 0")
	wantSteps(t, rule("p", nil, not("q", slices.Repeat([]api.Term{v("_")}, 24)...)), "", -1, "absent 0 0")

	var chain []api.Literal // each variable is given by the one that stands behind it
	var want []string
	for i := range 15 {
		chain = append(chain, eq(ex(wide[i]), op(api.OpAdd, ex(wide[i+1]), ex(n(1)))))
		want = append([]string{"set " + strconv.Itoa(i) + " 0 V" + strconv.Itoa(i)}, want...)
	}
	behind := strings.Join(want, "; ")
	wantSteps(t, rule("p", nil, append(slices.Clone(chain), pos("q", wide[15]))...), "", -1, "scan 15 0 V15; "+behind)
	wantSteps(t, rule("p", nil, append(slices.Clone(chain), pos("q", wide[15]))...), "", 15, "scan 15 0 V15; "+behind)
	wantSteps(t, rule("p", nil, append(slices.Clone(chain), eq(ex(wide[15]), ex(n(1))))...), "", -1, "set 15 0 V15; "+behind)
	wantCode(t, rule("p", nil, append(slices.Clone(chain), pos("q", wide[15]))...), nil, 16, api.ErrPlan)

	long := "X" + strings.Repeat("aZ09_", 24)[:119]
	wantSteps(t, rule("p", head(v(long)), pos("q", v(long))), "", 0, "scan 0 0 "+long)
	wantSteps(t, rule("p", head(v(long)), pos("q", v(long))), long, 0, "has 0 1")
}

// P12.2: a body without literals; what is known limits the head.
func TestMakeWithoutBody(t *testing.T) {
	wantSteps(t, ruleOf(t, "p."), "", -1, "")
	wantSteps(t, ruleOf(t, "p(1, a)."), "X", -1, "")
	wantSteps(t, ruleOf(t, "p(X, Y, X)."), "Y Q X", -1, "")
	wantSteps(t, ruleOf(t, "p(count())."), "", -1, "")
	wantSteps(t, ruleOf(t, "p(sum(X))."), "X", -1, "")
	wantCode(t, ruleOf(t, "p(X)."), nil, -1, api.ErrSafe)
	wantCode(t, ruleOf(t, "p(X, Y)."), names("X"), -1, api.ErrSafe)
	wantCode(t, ruleOf(t, "p(X)."), names("Y"), -1, api.ErrSafe)
	wantCode(t, ruleOf(t, "p."), nil, 0, api.ErrPlan)
}

// noRules are none as they may be.
func noRules() []api.Rule {
	x := v("X")
	return []api.Rule{
		{},
		rule("p", head(v("_")), pos("q", v("_"))),
		rule("P", head(x), pos("q", x)),
		rule("p", head(v("x")), pos("q", v("x"))),
		rule("p", head(x), pos("q", x), api.Literal{}),
		rule("p", head(x), pos("q", x), api.Literal{Kind: 4}),
		rule("p", head(x), pos("q", x), pos("", x)),
		rule("p", head(x), pos("q", x), eq(api.Expr{Op: 11}, ex(x))),
		rule("p", head(x), pos("q", x), eq(ex(v("_")), ex(x))),
		rule("p", head(x), pos("q", x), cmp(ex(x), api.RelNone, ex(x))),
		rule("p", head(x), api.Literal{Kind: api.LPos, Atom: api.Atom{Pred: "q", Args: []api.Term{x}}, Left: ex(x)}),
		rule("p", head(x), pos("q", api.Term{Var: "X", Val: num(1)})),
		rule("p", []api.Arg{{Agg: api.AggSum, Term: n(1)}}),
		rule("p", []api.Arg{{Agg: api.AggCount, Term: x}}, pos("q", x)),
		rule("p", nil, pos("q", v("X"+strings.Repeat("a", 120)))),
		rule("p", nil, pos("q", slices.Repeat([]api.Term{x}, 25)...)),
		rule("p", slices.Repeat(head(x), 25), pos("q", x)),
		rule("p", nil, slices.Repeat([]api.Literal{pos("q", x)}, 17)...),
		rule("p", nil, slices.Repeat([]api.Literal{pos("q", x)}, 40)...),
		rule("p", nil, pos("q", many(24)...), pos("q", x)),
	}
}

// noVariables are lists that no known variables may be.
func noVariables() [][]string {
	return [][]string{
		{"x"}, {""}, {"_"}, {"_X"}, {"X-"}, {"X Y"}, {" X"}, {"1"}, {"Ä"}, {"X\xff"}, {"X\x00"},
		{"X" + strings.Repeat("a", 120)}, {"X", "not"}, {"X", "Y", ""}, {"x", "X"},
		{"X", "X"}, {"X", "Y", "X"}, {"Q", "Q"}, {"Y", "Q", "X", "Q"},
	}
}

// firstThatAreNone are numbers that no literal of a body has.
func firstThatAreNone(body int) []int {
	return []int{-2, -3, -16, -64, math.MinInt, body, body + 1, 16, 17, 24, 31, 32, 33, 63, 64, 65, 1 << 32, math.MaxInt}
}

// P12.1: a rule that is none, whatever else is wrong.
func TestNoRule(t *testing.T) {
	for _, r := range noRules() {
		for _, known := range append(noVariables(), nil, names("X")) {
			for _, first := range []int{-1, 0, -2, 99} {
				wantCode(t, r, known, first, api.ErrTerm)
			}
		}
	}
}

// P12.1: known variables that are none or stand twice, whether the rule is safe and whatever comes first; one that does not stand in the rule is fine.
func TestKnownThatMayNotBe(t *testing.T) {
	a, unsafe := ruleOf(t, ancestor), ruleOf(t, "p(X) :- X = X, q.")
	for _, known := range noVariables() {
		for _, first := range []int{-1, 0, 1, -2, 7} {
			wantCode(t, a, known, first, api.ErrArg)
			wantCode(t, unsafe, known, first, api.ErrArg)
			wantCode(t, ruleOf(t, "p."), known, first, api.ErrArg)
		}
	}
	wantSteps(t, a, "Q Z1 X_ ABC", -1, "scan 0 0 X Z; look 1 1 Y")
	wantSteps(t, a, "Q X Z1", -1, "look 0 1 Z; look 1 1 Y")
}

// P12.1: rules that are not safe, with what is known; whatever comes first.
func TestNotSafe(t *testing.T) {
	for _, row := range []struct{ source, known string }{
		{"p(X) :- X = X, q.", ""},
		{"p(X) :- q.", "Y"},
		{"p(X, Y) :- q(X).", "X"},
		{"p(sum(X)) :- q(_).", ""},
		{"p :- q, not r(Z).", "X Y"},
		{"p(X) :- q(Y), X = Y, not r(Z).", ""},
		{"p :- q, X < 2.", ""},
		{"p :- q, X != Y.", "X"},
		{"p :- q, X >= Y, Y = 1.", ""},
		{"p :- q, X = Y.", ""},
		{"p :- q, X = Y, Y = X.", "Z"},
		{"p :- q, X + 1 = 2.", ""},
		{"p :- q, X + 0 = Y + 0.", "X"},
		{"p :- q, X = Y + Z.", "Z"},
		{"p :- q, X = X + Y.", "Y"},
		{"p :- q, X = Y, Z = X, not r(W).", "X"},
	} {
		for _, first := range []int{-1, 0, 1, -2, 7} {
			wantCode(t, ruleOf(t, row.source), names(row.known), first, api.ErrSafe)
		}
	}
}

// P12.1: what is known counts as limited, and what is equated with it, over and over.
func TestSafeByWhatIsKnown(t *testing.T) {
	for _, row := range []struct{ source, known, want string }{
		{"p(X) :- X = X, q.", "X", "test 0 0; has 1 0"},
		{"p :- q, not r(Z).", "Z", "absent 1 1; has 0 0"},
		{"p :- q, X < 2.", "X", "test 1 0; has 0 0"},
		{"p :- X = Y, Y = Z + W.", "W Z", "set 1 0 Y; set 0 0 X"},
		{"p(V) :- X = Y, Y = X, V = Y - X.", "X", "set 0 0 Y; test 1 0; set 2 0 V"},
		{"p(V) :- X = Y, Y = X, V = Y - X.", "Y", "set 0 0 X; test 1 0; set 2 0 V"},
	} {
		wantSteps(t, ruleOf(t, row.source), row.known, -1, row.want)
	}
}

// P12.1: a first literal that is none, or no atom.
func TestFirstThatMayNotBe(t *testing.T) {
	for _, source := range []string{ancestor, mixed, "p.", "p :- q.", "p :- not q, X = 1."} {
		r := ruleOf(t, source)
		for _, first := range firstThatAreNone(len(r.Body)) {
			wantCode(t, r, nil, first, api.ErrPlan)
		}
		for i, l := range r.Body {
			if l.Kind != api.LPos {
				wantCode(t, r, nil, i, api.ErrPlan)
				wantCode(t, r, names("X"), i, api.ErrPlan)
			} else if _, err := plan.Make(r, nil, i); err != api.OK {
				t.Errorf("Make(%s, none, %d): %d", source, i, err)
			}
		}
	}
	wide := rule("p", nil, slices.Repeat([]api.Literal{pos("q")}, 16)...)
	for _, first := range firstThatAreNone(16) {
		wantCode(t, wide, nil, first, api.ErrPlan)
	}
}
