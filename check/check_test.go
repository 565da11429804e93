package check_test

import (
	"fmt"
	"reflect"
	"slices"
	"strconv"
	"strings"
	"testing"

	"pedigree/api"
	"pedigree/check"
	"pedigree/parse"
)

func num(n int64) api.Value { return api.Value{Kind: api.KNum, Num: n} }

func text(s string) api.Value { return api.Value{Kind: api.KText, Text: s} }

func v(name string) api.Term { return api.Term{Var: name} }

func n(k int64) api.Term { return api.Term{Val: num(k)} }

func s(t string) api.Term { return api.Term{Val: text(t)} }

func atom(pred string, l ...api.Term) api.Atom { return api.Atom{Pred: pred, Args: l} }

func pos(pred string, l ...api.Term) api.Literal {
	return api.Literal{Kind: api.LPos, Atom: atom(pred, l...)}
}

func not(pred string, l ...api.Term) api.Literal {
	return api.Literal{Kind: api.LNot, Atom: atom(pred, l...)}
}

func cmp(left api.Expr, rel api.Rel, right api.Expr) api.Literal {
	return api.Literal{Kind: api.LCmp, Rel: rel, Left: left, Right: right}
}

func eq(left, right api.Expr) api.Literal { return cmp(left, api.RelEq, right) }

func ex(t api.Term) api.Expr { return api.Expr{Term: t} }

func op(o api.Op, kids ...api.Expr) api.Expr { return api.Expr{Op: o, Kids: kids} }

func head(l ...api.Term) []api.Arg {
	var out []api.Arg
	for _, t := range l {
		out = append(out, api.Arg{Term: t})
	}
	return out
}

func rule(pred string, args []api.Arg, body ...api.Literal) api.Rule {
	return api.Rule{Pred: pred, Head: args, Body: body}
}

func program(l ...api.Rule) api.Program { return api.Program{Rules: l} }

func fact(pred string, l ...api.Value) api.Fact { return api.Fact{Pred: pred, Args: l} }

// many are so many unlike variables.
func many(count int) []api.Term {
	var out []api.Term
	for i := range count {
		out = append(out, v("V"+strconv.Itoa(i)))
	}
	return out
}

// longest is a text of n bytes that begins with first and has letters, digits and _ behind it.
func longest(first string, n int) string {
	return (first + strings.Repeat("aZ09_", n))[:n]
}

// rulesOf reads a program's source.
func rulesOf(t *testing.T, source string) []api.Rule {
	t.Helper()
	p, fault := parse.Program(source)
	if (fault != api.Fault{}) {
		t.Fatalf("%s: %v", source, fault)
	}
	return p.Rules
}

func ruleOf(t *testing.T, source string) api.Rule {
	t.Helper()
	r, fault := parse.Rule(source)
	if (fault != api.Fault{}) {
		t.Fatalf("%s: %v", source, fault)
	}
	return r
}

func factsOf(t *testing.T, source string) []api.Fact {
	t.Helper()
	l, fault := parse.Facts(source)
	if (fault != api.Fault{}) {
		t.Fatalf("%s: %v", source, fault)
	}
	return l
}

// brief cuts off what is too long for a remark.
func brief(x any) string {
	const most = 600
	out := fmt.Sprintf("%+v", x)
	if len(out) > most {
		return out[:most] + " .."
	}
	return out
}

// told writes a thing out; an empty list and nil are the same.
func told(x any) string {
	var out strings.Builder
	tell(&out, reflect.ValueOf(x))
	return out.String()
}

func tell(out *strings.Builder, x reflect.Value) {
	switch x.Kind() {
	case reflect.Struct:
		for i := range x.NumField() {
			tell(out, x.Field(i))
			out.WriteString(";")
		}
	case reflect.Slice:
		out.WriteString("[")
		for i := range x.Len() {
			tell(out, x.Index(i))
			out.WriteString(",")
		}
		out.WriteString("]")
	case reflect.String:
		out.WriteString(strconv.Quote(x.String()))
	default:
		out.WriteString(strconv.FormatInt(x.Int(), 10))
	}
}

func wantRule(t *testing.T, r api.Rule, code api.Errno) {
	t.Helper()
	if got := check.Rule(r); got != code {
		t.Errorf("Rule(%s) = %d, want %d", brief(r), got, code)
	}
}

func wantMakes(t *testing.T, r api.Rule, want bool) {
	t.Helper()
	if got := check.Makes(r); got != want {
		t.Errorf("Makes(%s) = %v", brief(r), got)
	}
}

// P7.3: sources, each with the error.
func TestRule(t *testing.T) {
	for source, code := range map[string]api.Errno{
		"p(X) :- q(X), not r(X).":             api.OK,
		"p(X) :- not r(X).":                   api.ErrSafe,
		"p(X) :- q(Y), X < Y.":                api.ErrSafe,
		"p.":                                  api.OK,
		"p(1, a).":                            api.OK,
		"p(X).":                               api.ErrSafe,
		"p(X) :- q(_).":                       api.ErrSafe,
		"p(1) :- q(X), r(Y).":                 api.OK,
		"p(X, Y) :- q(X).":                    api.ErrSafe,
		"p(X) :- q(X), not r(Y).":             api.ErrSafe,
		"p(X) :- q(X), not r(_).":             api.OK,
		"p :- not r(_).":                      api.OK,
		"p :- not r(X).":                      api.ErrSafe,
		"p :- 1 < 2.":                         api.OK,
		"p :- X < 2.":                         api.ErrSafe,
		"p :- 2 > X.":                         api.ErrSafe,
		"p :- X = 2.":                         api.OK,
		"p :- 2 = X.":                         api.OK,
		"p :- X != 2.":                        api.ErrSafe,
		"p :- X <= 2, X >= 2.":                api.ErrSafe,
		"p :- X = X.":                         api.ErrSafe,
		"p :- X + 1 = 2.":                     api.ErrSafe,
		"p :- -X = 2.":                        api.ErrSafe,
		"p :- X = Y + 1, Y = X - 1.":          api.ErrSafe,
		"p(Z) :- Z = Y + X, Y = X * 2, q(X).": api.OK,
		"p(Z) :- Z = Y + X, Y = W * 2, q(X).": api.ErrSafe,
		"p(X) :- q(X, Y), not r(Y), Y < X, X = Y + 1.": api.OK,
		"p(count()) :- q(X).":                          api.OK,
		"p(count()).":                                  api.OK,
		"p(sum(X)) :- q(X).":                           api.OK,
		"p(sum(X)) :- q(Y).":                           api.ErrSafe,
		"p(min(X)) :- not q(X).":                       api.ErrSafe,
		"p(max(X)) :- q(Y), X = Y + 1.":                api.OK,
		"q_p(X) :- q_q(X).":                            api.OK,
	} {
		wantRule(t, ruleOf(t, source), code)
	}
}

// P7.3: rules that are none as they may be, safe or not.
func TestRuleThatIsNone(t *testing.T) {
	x := v("X")
	for _, r := range []api.Rule{
		{},
		rule("p", head(v("_")), pos("q", v("_"))),
		rule("P", head(x), pos("q", x)),
		rule("not", head(x), pos("q", x)),
		rule("p", head(v("x")), pos("q", v("x"))),
		rule("p", head(v("x"))),
		rule("p", head(x), api.Literal{}),
		rule("p", head(x), pos("q", x), api.Literal{Kind: 4}),
		rule("p", head(x), pos("q", x), eq(api.Expr{Op: 11}, ex(x))),
		rule("p", head(x), pos("q", x), eq(ex(v("_")), ex(x))),
		rule("p", head(x), pos("q", x), cmp(ex(x), api.RelNone, ex(x))),
		rule("p", head(x), pos("q", x), api.Literal{Kind: api.LPos, Atom: atom("q", x), Left: ex(x)}),
		rule("p", head(x), pos("q", x), not("Q")),
		rule("p", []api.Arg{{Agg: api.AggSum, Term: n(1)}}),
		rule("p", []api.Arg{{Agg: api.AggCount, Term: x}}, pos("q", x)),
		rule("p", []api.Arg{{Agg: 5, Term: x}}, pos("q", x)),
		rule(longest("p", 121), head(x), pos("q", x)),
		rule("p", nil, pos("q", v(longest("X", 121)))),
		rule("p", head(many(25)...), pos("q", many(24)...)),
		rule("p", nil, pos("q", slices.Repeat([]api.Term{x}, 25)...)),
		rule("p", slices.Repeat(head(x), 25), pos("q", x)),
		rule("p", nil, slices.Repeat([]api.Literal{pos("q", x)}, 17)...),
		rule("p", nil, pos("q", many(24)...), pos("q", x)),
	} {
		wantRule(t, r, api.ErrTerm)
		wantMakes(t, r, false)
	}
}

// P7.3: as much as a rule may have.
func TestGreatestRules(t *testing.T) {
	wantRule(t, rule(longest("p", 120), head(v(longest("X", 120))), pos(longest("q", 120), v(longest("X", 120)))), api.OK)
	wantRule(t, rule("p", head(many(24)...), slices.Repeat([]api.Literal{pos("q", many(24)...)}, 16)...), api.OK)
	wantRule(t, rule("p", head(many(24)...), append(slices.Repeat([]api.Literal{pos("q")}, 15), pos("q", many(23)...))...), api.ErrSafe)
	var chain []api.Literal // each variable is given by the one that stands behind it
	for i := range 15 {
		chain = append(chain, eq(ex(many(16)[i]), op(api.OpAdd, ex(many(16)[i+1]), ex(n(1)))))
	}
	wantRule(t, rule("p", head(many(16)...), append(chain, eq(ex(n(1)), ex(many(16)[15])))...), api.OK)
	wantRule(t, rule("p", head(many(16)...), append(chain, not("q", many(16)[15]))...), api.ErrSafe)
	wantMakes(t, rule("p", head(v("V0")), append(chain, pos("q", many(16)[15]))...), true)
	wantMakes(t, rule("p", head(v("V15")), append(chain, pos("q", many(16)[15]))...), false)
}

// P7.4: sources.
func TestMakes(t *testing.T) {
	for source, want := range map[string]bool{
		"p(Y) :- q(X), Y = X + 1.":               true,
		"p(Y) :- q(X), Y = X.":                   false,
		"p(X) :- q(X), r(Z), Z > X + 1.":         false,
		"p(Y) :- q(X), Y = X, X < 2 + 2.":        true,
		"p(Y) :- q(X), Y = X, 2 + 2 > X.":        true,
		"p(Y) :- q(X), X + 1 = Y.":               true,
		"p(Y) :- q(X), Y = -X.":                  true,
		"p(Y) :- q(X), Y = len(X).":              true,
		"p(Y) :- q(X), Y = X & X.":               true,
		"p(Y) :- Y = 1 + 1.":                     true,
		"p(Y) :- Y = 1.":                         false,
		"p(Y) :- q(X, Y), Y = X + 1.":            false,
		"p(X) :- q(X), Y = X + 1.":               false,
		"p(X, Y) :- q(X), Y = X + 1.":            true,
		"p :- q(X), Y = X + 1, Z = Y + 1.":       false,
		"p(1) :- q(X), Y = X + 1.":               false,
		"p(count()) :- q(X), Y = X + 1.":         false,
		"p(sum(Y)) :- q(X), Y = X + 1.":          true,
		"p(X, max(Y)) :- q(X), Y = X + 1.":       true,
		"p(sum(X)) :- q(X), Y = X + 1.":          false,
		"p(Y) :- q(X), not r(Y), Y = X + 1.":     true,
		"p(Y) :- not r(Y), Y = 7, 1 + 1 != 3.":   true,
		"p(Y) :- not r(Y), Y = 7.":               false,
		"p(Y) :- q(X), Y < X + 1.":               false,
		"p(Y) :- q(X), Y = X + Z.":               false,
		"p(Y) :- q(X), Y = X + 1, not r(Z).":     false,
		"p(Y) :- q(X), Y = X, Z = X * 2, Z > 3.": true,
		"p.":                                     false,
		"p(X) :- q(X).":                          false,
		"p(X) :- q(X), X >= 1 * 1.":              false,
	} {
		wantMakes(t, ruleOf(t, source), want)
	}
	wantMakes(t, rule("p", head(v("y")), pos("q", v("X")), eq(ex(v("y")), op(api.OpAdd, ex(v("X")), ex(n(1))))), false)
}

func wantPreds(t *testing.T, p api.Program, l []api.Fact, want ...api.Pred) {
	t.Helper()
	if got, err := check.Preds(p, l); err != api.OK || !slices.Equal(got, want) {
		t.Errorf("Preds(%s, %s) = %v, %d; want %v", brief(p), brief(l), got, err, want)
	}
}

func refusePreds(t *testing.T, p api.Program, l ...api.Fact) {
	t.Helper()
	if got, err := check.Preds(p, l); err != api.ErrArity || len(got) != 0 {
		t.Errorf("Preds(%s, %s) = %v, %d; want ErrArity", brief(p), brief(l), got, err)
	}
}

func pred(name string, arity int) api.Pred { return api.Pred{Name: name, Arity: arity} }

// P7.5: ordinary programs and facts, and none.
func TestPreds(t *testing.T) {
	p := program(rulesOf(t, "p(X, Y) :- q(X), not r(), X = Y.")...)
	wantPreds(t, p, factsOf(t, "q(1)."), pred("p", 2), pred("q", 1), pred("r", 0))
	wantPreds(t, program(), nil)
	wantPreds(t, program(), factsOf(t, "b(1). a. b(2). a. aB(1, 2). a_(1). ab(1)."), pred("a", 0), pred("aB", 2), pred("a_", 1), pred("ab", 1), pred("b", 1))
	wantPreds(t, program(rulesOf(t, "z(X, count(), sum(Y)) :- y(X, Y, _). b. a(1) :- not c(X), d(X, 1) .")...), factsOf(t, "e(a)."), pred("a", 1), pred("b", 0), pred("c", 1), pred("d", 2), pred("e", 1), pred("y", 3), pred("z", 3))
	wantPreds(t, program(rulesOf(t, "p(X) :- p(X), not p(X). p(X) :- p(X).")...), factsOf(t, "p(1). p(1)."), pred("p", 1))
	refusePreds(t, program(rulesOf(t, "p(X) :- p(X, X).")...))
	refusePreds(t, program(rulesOf(t, "p(X) :- q(X), not q(X, X).")...))
	refusePreds(t, program(rulesOf(t, "p(X) :- not q(X), not q(X, X).")...))
	refusePreds(t, program(rulesOf(t, "p. p(X) :- q(X).")...))
	refusePreds(t, program(rulesOf(t, "p :- q(X). p :- not q.")...))
	refusePreds(t, p, factsOf(t, "q(1). q(1, 2).")...)
	refusePreds(t, p, factsOf(t, "a. p(1).")...)
	refusePreds(t, program(), factsOf(t, "p. p(1).")...)
}

// P7.1, P7.5: nothing is looked at but names, how many columns there are, and the kinds of literals.
func TestPredsOfAnything(t *testing.T) {
	loose := atom("z", many(9)...)
	odd := rule("Not a name", make([]api.Arg, 30), pos("", make([]api.Term, 40)...), not("_", api.Term{Var: "x", Val: text("a")}))
	for kind := -128; kind < 128; kind++ {
		if k := api.LitKind(kind); k != api.LPos && k != api.LNot {
			odd.Body = append(odd.Body, api.Literal{Kind: k, Atom: loose, Rel: api.RelEq, Left: ex(v("X"))})
		}
	}
	odd.Body[0].Rel, odd.Body[0].Left = 99, op(-1, ex(v("X")))
	all := []api.Pred{pred("", 40), pred("Not a name", 30), pred("_", 1), pred("z", 0), pred("\xff", 25)}
	wantPreds(t, program(odd, rule("z", nil)), []api.Fact{fact("\xff", make([]api.Value, 25)...)}, all...)
	wantPreds(t, program(odd, odd), []api.Fact{fact("\xff", make([]api.Value, 25)...), fact("z")}, all...)
	refusePreds(t, program(odd), api.Fact{})
	wantPreds(t, program(), []api.Fact{{}, {}}, pred("", 0))
	wantPreds(t, program(api.Rule{}, api.Rule{}), []api.Fact{{}}, pred("", 0))
	refusePreds(t, program(rule("", nil, pos("", v("X")))))
}

// P7.5: many of them.
func TestManyPreds(t *testing.T) {
	var l []api.Fact
	var want []api.Pred
	for i := range 40000 {
		l = append(l, fact("p"+strconv.Itoa(89999-i), slices.Repeat([]api.Value{num(1)}, i%30)...))
		want = append(want, pred("p"+strconv.Itoa(50000+i), (39999-i)%30))
	}
	wantPreds(t, program(), append(l, l[:1000]...), want...)
	refusePreds(t, program(), append(l, fact("p50000"))...)
	wantPreds(t, program(slices.Repeat([]api.Rule{rule("p", nil, pos("q", n(1)))}, 100000)...), nil, pred("p", 0), pred("q", 1))
}

func wantJob(t *testing.T, rules []api.Rule, l []api.Fact, code api.Errno) {
	t.Helper()
	if got := check.Job(rules, l); got != code {
		t.Errorf("Job(%s, %s) = %d, want %d", brief(rules), brief(l), got, code)
	}
}

// badFacts are none as they may be.
func badFacts() []api.Fact {
	out := []api.Fact{{}, fact(longest("p", 121)), fact("p", slices.Repeat([]api.Value{num(1)}, 25)...)}
	for _, name := range []string{"P", "_", "X", "not", "back", "0", "p-", " p", "p ", "\xc3\xa4", "p\x00", "P9"} {
		out = append(out, fact(name), fact(name, num(1)))
	}
	for _, w := range []api.Value{{}, {Num: 1}, {Text: "a"}, {Kind: api.KNum, Text: "a"}, {Kind: api.KText, Num: 1}, {Kind: 3}, {Kind: -1}, text(strings.Repeat("a", 201))} {
		out = append(out, fact("p", w), fact("p", num(1), w, num(2)), fact("w", append(slices.Repeat([]api.Value{num(1)}, 23), w)...))
	}
	return out
}

// goodFacts are as they may be, of unlike names.
func goodFacts() []api.Fact {
	return []api.Fact{fact("p"), fact(longest("q", 120), text("")), fact("w", slices.Repeat([]api.Value{num(-1)}, 24)...), fact("q_x", text(strings.Repeat("\xff", 200))), fact("q_"), fact("nots", num(1), text("X"))}
}

// P7.6: each error, and which is the first.
func TestJob(t *testing.T) {
	good := rulesOf(t, "p(X) :- q(X).")
	unsafe := rulesOf(t, "p(X) :- q(X). p(Y) :- q(X). p(X) :- q(X).")
	none := append(rulesOf(t, "p(X) :- q(X)."), rule("P", nil))
	wantJob(t, nil, nil, api.OK)
	wantJob(t, good, nil, api.OK)
	wantJob(t, good, factsOf(t, "q(1). q(a). p(3). q(1). r(1, 2)."), api.OK)
	wantJob(t, good, factsOf(t, "q(1, 2)."), api.ErrArity)
	wantJob(t, good, factsOf(t, "q(1). q."), api.ErrArity)
	wantJob(t, nil, factsOf(t, "q(1). q(1, 2)."), api.ErrArity)
	wantJob(t, rulesOf(t, "p(X) :- q(X). r :- q(X, X)."), nil, api.ErrArity)
	wantJob(t, rulesOf(t, "q_p(X) :- q(X), not q_r(X)."), factsOf(t, "q_r(1). q_s."), api.OK)
	wantJob(t, append(slices.Clone(unsafe), none...), nil, api.ErrSafe)
	wantJob(t, append(slices.Clone(none), unsafe...), nil, api.ErrTerm)
	wantJob(t, append(rulesOf(t, "p(X) :- p(X, X)."), unsafe...), nil, api.ErrSafe)
	wantJob(t, goodRules(), goodFacts(), api.OK)
	for _, f := range badFacts() {
		wantJob(t, good, []api.Fact{f}, api.ErrValue)
		wantJob(t, nil, []api.Fact{fact("p"), f}, api.ErrValue)
		wantJob(t, good, []api.Fact{fact("q"), fact("q", num(1)), f, fact("q")}, api.ErrValue)
		wantJob(t, unsafe, []api.Fact{f, fact("q")}, api.ErrSafe)
		wantJob(t, none, []api.Fact{f, fact("q")}, api.ErrTerm)
	}
	wantJob(t, unsafe, factsOf(t, "q. q(1)."), api.ErrSafe)
	wantJob(t, none, factsOf(t, "q. q(1)."), api.ErrTerm)
}

// goodRules may be used, but are too large for a user, or reserved.
func goodRules() []api.Rule {
	x := v("X")
	return []api.Rule{rule("p", nil), rule("q_a", head(x), pos("q_x", x)), rule("wide", head(many(24)...), pos("wider", many(24)...)),
		rule("p", nil, slices.Repeat([]api.Literal{pos("q_x", x)}, 16)...), rule("p", nil, pos("q_x", v(longest("X", 120)))), rule(longest("p", 120), nil)}
}

// P7.6: a job is not bound by what a user may hand in.
func TestGreatJobs(t *testing.T) {
	wantJob(t, slices.Repeat(rulesOf(t, "p(X) :- q(X)."), 501), slices.Repeat(factsOf(t, "q(1)."), 65537), api.OK)
	wantJob(t, slices.Repeat(rulesOf(t, "p(X) :- q(X)."), 501), append(slices.Repeat(factsOf(t, "q(1)."), 65537), fact("q")), api.ErrArity)
	wantJob(t, nil, append(slices.Repeat(factsOf(t, "q(1)."), 65537), fact("")), api.ErrValue)
	wantJob(t, append(slices.Repeat(rulesOf(t, "p(X) :- q(X)."), 5000), rule("p", head(v("X")))), nil, api.ErrSafe)
}
