package types_test

import (
	"fmt"
	"slices"
	"strconv"
	"strings"
	"testing"

	"pedigree/api"
	"pedigree/types"
)

// P8.2: sources, each with the Sigs; the chapter's own first.
func TestInfer(t *testing.T) {
	for source, want := range map[string]string{
		"":                           "",
		"p(X, Y) :- e(X, Y).":        "e(??) p(??)",
		"p(X, Y) :- e(X, Y), X < 3.": "e(n?) p(n?)",
		"p(X) :- e(X, _). e(a, 1).":  "e(tn) p(t)",
		"n(X, count()) :- e(X, Y).  s(sum(Y)) :- e(_, Y).": "e(?n) n(?n) s(n)",
		`m(max(S)) :- e(S), T = S & "!", T != zz.`:         "e(t) m(t)",
		`p(X) :- e(X), not f(X, 1), X = Y, Y > "a".`:       "e(t) f(tn) p(t)",
		"p(X, X) :- e(X). q(A) :- p(A, B), B = 1.":         "e(n) p(nn) q(n)",

		"p.":          "p()",
		"p :- q.":     "p() q()",
		"p :- not q.": "p() q()",
		"p :- 1 < 2.": "p()",
		`z. aB(1). a_. ab(x, 1). a(x). b("") :- z, not a_.`: "a(t) aB(n) a_() ab(tn) b(t) z()",
		`p(1, a, -1, "").`: "p(ntnt)",
		"p(X, Y, Z) :- q(Z, Y, X, _). q(1, a, A, b) :- p(_, A, 2).":                            "p(ttn) q(nttt)",
		"p(X, Y, Z) :- q(Z, Y, X, _). q(1, A, b, 2) :- p(_, A, 2).":                            "p(t?n) q(n?tn)",
		"p(X) :- e(X). p(X) :- f(X). f(X) :- g(X), X < 1.":                                     "e(n) f(n) g(n) p(n)",
		"p(X) :- e(X), f(Y), X = Z, Z = Y. q(Y) :- f(Y), g(Y), not h(Y, 1). h(W, W) :- i(W).":  "e(n) f(n) g(n) h(nn) i(n) p(n) q(n)",
		"a(X) :- b(X). b(X) :- c(X). c(X) :- a(X). a(X) :- d(_, X). d(X, Y) :- d(Y, X). c(x).": "a(t) b(t) c(t) d(tt)",
		"p(min(X), max(Y), sum(Z), count()) :- e(X, Y, Z, W), W = X & a.":                      "e(t?nt) p(t?nn)",
		"p(len_) :- e(X), 2 * len(X) - 1 >= chars(back(X)).":                                   "e(t) p(t)",
		"m(min(X)) :- e(X), X % 2 = 0.":                                                        "e(n) m(n)",
		"q_p(X) :- q_e(X, 1).":                                                                 "q_e(?n) q_p(?)",
		"p(X, Y) :- e(X), Y = len(X & X).":                                                     "e(t) p(tn)",
		"p(X, Y, Z, W) :- e(X, Y, Z), W = (X - Y) / (Z % 2).":                                  "e(nnn) p(nnnn)",
		"p(X, Y) :- e(X, Y), X = Y. q :- e(_, a).":                                             "e(tt) p(tt) q()",
		"anc(X, Y) :- par(X, Y). anc(X, Z) :- par(X, Y), anc(Y, Z).":                           "anc(??) par(??)",
		"anc(X, Y) :- par(X, Y). anc(X, Z) :- par(X, Y), anc(Y, Z). par(ann, bob).":            "anc(tt) par(tt)",
		"sales(D, count(), sum(S), max(S)) :- sold(D, P, S).":                                  "sales(?nnn) sold(??n)",
		`shout(X, Y) :- w(X), Y = X & "!", len(Y) <= 3.`:                                       "shout(tt) w(t)",
		"next(X, Y) :- n(X), Y = X + 1. half(X, Y) :- n(X), Y = 10 / X.":                       "half(nn) n(n) next(nn)",
		"alive(X) :- node(X), not dead(X). dead(X) :- hit(X). dead(Y) :- dead(X), near(X, Y).": "alive(?) dead(?) hit(?) near(??) node(?)",
	} {
		wantInfer(t, rulesOf(t, source), want)
	}
}

// P8.1: sources, each with the rule and the error; the chapter's own first.
func TestInferFaults(t *testing.T) {
	for _, c := range []struct {
		source string
		at     int
		code   api.Errno
	}{
		{"p(1). p(a).", 1, api.ErrType},
		{"p(X) :- e(X), X + 1 > 2. e(b). e(1, 2).", 2, api.ErrArity},
		{"p(X) :- e(X). q(X) :- p(X), X > 1. r :- p(a).", 2, api.ErrType},
		{"p(X) :- e(X), chars(X) < X.", 0, api.ErrType},
		{`p(X) :- e(X), 3 < "0".`, 0, api.ErrType},
		{"p(Y) :- e(X).", 0, api.ErrSafe},

		{"p(X) :- p(X, X).", 0, api.ErrArity},
		{"a. p(X) :- q(X), not q(X, X).", 1, api.ErrArity},
		{"a. p(X) :- q(X), not p, a.", 1, api.ErrArity},
		{"p :- q. r :- not q(1). s. s(1).", 1, api.ErrArity},
		{"p :- q. r. s :- r. q(1) :- s. r(1).", 3, api.ErrArity},
		{"p(1). p(a). q(X). r(1) :- r.", 2, api.ErrSafe},
		{"p(1). p(a). r(1) :- r.", 2, api.ErrArity},
		{"r(1) :- r. p(1). p(a). p(X).", 3, api.ErrSafe},

		{"s(sum(X)) :- e(X). e(a).", 1, api.ErrType},
		{"s(sum(X)) :- e(X). s(a).", 1, api.ErrType},
		{"s(count()) :- e(X). s(a).", 1, api.ErrType},
		{"s(count()) :- e(X). e(a). e(1).", 2, api.ErrType},
		{"s(min(X)) :- e(X). e(a). s(1).", 2, api.ErrType},
		{"s(max(X)) :- e(X). e(1). s(a).", 2, api.ErrType},
		{"s(sum(X), max(X)) :- e(X, X). e(1, a).", 1, api.ErrType},
		{"s(X, sum(X)) :- e(X). s(a, 1).", 1, api.ErrType},
		{"s(sum(X)) :- e(X), X = Y & a.", 0, api.ErrSafe},
		{"s(sum(X)) :- e(Y), X = Y & a.", 0, api.ErrType},
		{"n(count()) :- e(X). m(X) :- e(X), n(X), f(X). f(a).", 2, api.ErrType},
		{"p(X) :- e(X), Y = -X, Z = Y * Y, W = Z & a, W = a.", 0, api.ErrType},
		{"p(X, Y) :- e(X, Y). e(1, a). e(X, Y) :- e(Y, X).", 2, api.ErrType},
		{"p :- e(X), f(X), e(1), f(a).", 0, api.ErrType},
		{"p :- e(X), not f(X). f(1). a. e(b). e(b).", 3, api.ErrType},
		{"a(X) :- b(X). b(X) :- c(X). c(X) :- d(X). a(1). d(x).", 4, api.ErrType},
		{"a(1). d(x). a(X) :- b(X). c(X) :- d(X). b(X) :- c(X). a(1).", 4, api.ErrType},
		{"p(X) :- e(X), X = Y, Y = Z, Z = 1. q(X) :- e(X), X = a.", 1, api.ErrType},
		{"p(1). q(a). q(X) :- p(X). p(a).", 2, api.ErrType},
	} {
		refuseInfer(t, rulesOf(t, c.source), c.at, c.code)
	}
}

// P8.1: rules that check.Rule refuses.
func TestInferOfNoRules(t *testing.T) {
	good := rulesOf(t, "p(1). p(a). r :- r(1).")
	cyclic := []api.Expr{{Op: api.OpNeg, Kids: make([]api.Expr, 1)}}
	cyclic[0].Kids[0] = api.Expr{Op: api.OpNeg, Kids: cyclic}
	x := v("X")
	for _, r := range []api.Rule{
		{},
		rule("P", nil),
		rule("p", head(v("_")), pos("q", v("_"))),
		rule("p", head(x), pos("q", x), api.Literal{}),
		rule("p", head(x), pos("q", x), api.Literal{Kind: api.LPos, Atom: atom("q", x), Rel: api.RelEq}),
		rule("p", head(x), pos("q", x), cmp(ex(x), 7, ex(x))),
		rule("p", head(x), pos("q", x), cmp(ex(x), api.RelEq, op(11, ex(x)))),
		rule("p", head(x), pos("q", x), cmp(ex(x), api.RelEq, op(-1, ex(x)))),
		rule("p", head(x), pos("q", x), cmp(ex(x), api.RelEq, op(api.OpNeg, ex(x), ex(x)))),
		rule("p", head(x), pos("q", x), cmp(ex(x), api.RelEq, op(api.OpNeg, ex(v("_"))))),
		rule("p", []api.Arg{{Agg: api.AggSum, Term: n(1)}}),
		rule("p", []api.Arg{{Agg: 5, Term: x}}, pos("q", x)),
		rule("p", head(api.Term{Val: api.Value{Kind: 3}})),
		rule("p", head(api.Term{Val: text(strings.Repeat("a", 201))})),
		rule("p", nil, pos("q", many(24)...), pos("q", x)),
		rule("p", nil, slices.Repeat([]api.Literal{pos("q", x)}, 17)...),
	} {
		for at := range len(good) + 1 {
			refuseInfer(t, slices.Insert(slices.Clone(good), at, r), at, api.ErrTerm)
			refuseInfer(t, slices.Insert(slices.Clone(good), at, r, rule("p", head(x))), at, api.ErrTerm)
			refuseInfer(t, slices.Insert(slices.Clone(good), at, rule("p", head(x)), r), at, api.ErrSafe)
		}
		refuseVars(t, r, sigsOf("p(7) q(nt) q(n)"), api.ErrTerm)
	}
	deep := rule("p", nil, eq(api.Expr{Op: api.OpNeg, Kids: cyclic}, ex(n(1))))
	if l, at, err := types.Infer(program(good[0], deep)); len(l) > 0 || at != 1 || err != api.ErrTerm {
		t.Errorf("Infer of an expression that stands in itself: %d, %d", at, err)
	}
}

// P8.1: whatever stands behind and ahead of one another: the error that is named first, at its first rule.
func TestFirstError(t *testing.T) {
	kinds := []struct {
		r    api.Rule
		code api.Errno
	}{
		{ruleOf(t, "g(X) :- h(X)."), api.OK},
		{ruleOf(t, "t :- t, 1 = a."), api.ErrType},
		{ruleOf(t, "a :- b(1), b."), api.ErrArity},
		{ruleOf(t, "s(X)."), api.ErrSafe},
		{rule("P", nil), api.ErrTerm},
	}
	groups := [][]api.Errno{{api.ErrTerm, api.ErrSafe}, {api.ErrArity}, {api.ErrType}}
	for number := range 5 * 5 * 5 * 5 {
		var l []api.Rule
		var codes []api.Errno
		for range 4 {
			k := kinds[number%5]
			l, codes = append(l, k.r), append(codes, k.code)
			number /= 5
		}
		at, code := 0, api.OK
		for _, group := range slices.Backward(groups) {
			if i := slices.IndexFunc(codes, func(c api.Errno) bool { return slices.Contains(group, c) }); i >= 0 {
				at, code = i, codes[i]
			}
		}
		if _, gotAt, err := types.Infer(program(l...)); gotAt != at || err != code {
			t.Fatalf("errors %v: %d, %d; want %d, %d", codes, gotAt, err, at, code)
		}
	}
}

// frames are rules with a place for a value, which says e's column to be of its type.
func frames() []string {
	out := []string{"e(%s).", "p :- e(%s).", "p :- not e(%s).", "p :- e(_), e(%s).", "p :- not e(_), e(%s).",
		"p :- e(X), X = Y, Y = %s.", "p :- e(X), not f(X), f(%s).", "p :- f(X), not e(X), X = %s.", "p :- e(X), e(%s), f(X).", "e(X) :- X = %s.",
		"e(min(X)) :- X = %s.", "e(max(X)) :- X = %s.", "e(min(X)) :- f(X, _), not f(%s, _).", "p(max(X)) :- f(X, _), e(X), p(%s)."}
	for _, rel := range []string{"=", "!=", "<", "<=", ">", ">="} {
		out = append(out, "p :- e(X), X "+rel+" %s.", "p :- e(X), %s "+rel+" X.", "p :- e(X), f(Y, _), Y "+rel+" X, f(%s, _).", "p :- e(X), f(Y, _), X "+rel+" Y, not f(%s, _).")
	}
	return out
}

// P8.2: a value in every place says what it is, and is not what it is not.
func TestEveryPlace(t *testing.T) {
	values := map[string]string{"0": "n", "-7": "n", "9223372036854775807": "n", `""`: "t", "a": "t", `"0"`: "t", `"\xff"`: "t"}
	for _, frame := range frames() {
		for one, letter := range values {
			rules := rulesOf(t, fmt.Sprintf(frame, one))
			l, at, err := types.Infer(program(rules...))
			i := slices.IndexFunc(l, func(x api.Sig) bool { return x.Pred == "e" })
			if err != api.OK || at != 0 || i < 0 || lettersOf(l[i].Cols) != letter {
				t.Fatalf("Infer("+frame+") = %s, %d, %d", one, showSigs(l), at, err)
			}
			for other, of := range values {
				code := api.OK
				if of != letter {
					code = api.ErrType
				}
				if _, at, err := types.Infer(program(append(rules, rulesOf(t, "e("+other+").")...)...)); err != code || at == 0 && err != api.OK {
					t.Fatalf("Infer("+frame+") with e(%s): %d, %d", one, other, at, err)
				}
			}
		}
	}
}

// operation is a row of the chapter's table.
type operation struct {
	op          api.Op
	kids        int
	kid, itself string
}

func operations() []operation {
	return []operation{{api.OpNeg, 1, "n", "n"}, {api.OpAdd, 2, "n", "n"}, {api.OpSub, 2, "n", "n"}, {api.OpMul, 2, "n", "n"}, {api.OpDiv, 2, "n", "n"}, {api.OpMod, 2, "n", "n"},
		{api.OpCat, 2, "t", "t"}, {api.OpBack, 1, "t", "t"}, {api.OpLen, 1, "t", "n"}, {api.OpChars, 1, "t", "n"}}
}

// with is the operation of an expression, at one of its kids; the other is a value that fits.
func (o operation) with(e api.Expr, at int) api.Expr {
	kids := slices.Repeat([]api.Expr{ex(map[string]api.Term{"n": n(1), "t": s("a")}[o.kid])}, o.kids)
	kids[at] = e
	return op(o.op, kids...)
}

// wantTorn asks whether a rule's classes fit together.
func wantTorn(t *testing.T, r api.Rule, torn bool) {
	t.Helper()
	code := api.OK
	if torn {
		code = api.ErrType
	}
	_, at, err := types.Infer(program(r))
	if _, also := types.Vars(r, nil); at != 0 || err != code || also != code {
		t.Fatalf("%s: %d, %d, want %d", brief(r), err, also, code)
	}
}

// P8.2: what the table says of an operation and its kids, whatever the kids are.
func TestEveryOperation(t *testing.T) {
	x, y := v("X"), v("Y")
	for _, o := range operations() {
		for at := range o.kids {
			e := o.with(ex(x), at)
			for _, l := range []api.Literal{eq(e, ex(y)), eq(ex(y), e)} {
				wantInfer(t, []api.Rule{rule("p", head(x, y), pos("e", x), l)}, "e("+o.kid+") p("+o.kid+o.itself+")")
				wantVars(t, rule("p", head(x, y), pos("e", x), l), nil, o.kid+o.itself)
			}
			for rel := api.RelEq; rel <= api.RelGe; rel++ {
				for letter, one := range map[string]api.Term{"n": n(0), "t": s("0")} {
					wantTorn(t, rule("p", nil, pos("e", x), cmp(e, rel, ex(one))), letter != o.itself)
					wantTorn(t, rule("p", nil, pos("e", x), cmp(ex(one), rel, e)), letter != o.itself)
					wantTorn(t, rule("p", nil, cmp(o.with(ex(one), at), rel, o.with(ex(one), at))), letter != o.kid)
					wantTorn(t, rule("p", nil, pos("e", x), pos("e", one), cmp(e, rel, e)), letter != o.kid)
				}
				wantTorn(t, rule("p", nil, pos("e", x), cmp(e, rel, ex(x))), o.kid != o.itself)
			}
			for _, other := range operations() {
				for i := range other.kids {
					wantTorn(t, rule("p", nil, pos("e", x), eq(other.with(e, i), ex(y))), o.itself != other.kid)
					wantTorn(t, rule("p", nil, pos("e", x), pos("f", y), cmp(e, api.RelLt, other.with(ex(y), i))), o.itself != other.itself)
					wantTorn(t, rule("p", nil, pos("e", x), eq(ex(y), e), cmp(ex(n(1)), api.RelGt, o.with(other.with(ex(y), i), at))), o.itself != other.kid || other.itself != o.kid || o.itself != "n")
				}
			}
		}
	}
}

// P8.2: each kid by itself: the type is said of the left one, and of the right one.
func TestBothKids(t *testing.T) {
	for _, o := range operations() {
		if o.kids == 2 {
			r := rule("p", head(v("Z")), pos("e", v("X"), v("_"), v("Y")), eq(ex(v("Z")), op(o.op, ex(v("X")), ex(v("Y")))))
			wantInfer(t, []api.Rule{r}, "e("+o.kid+"?"+o.kid+") p("+o.itself+")")
			wantVars(t, r, nil, o.itself+o.kid+o.kid)
		}
	}
}

// P8.1, P8.2: blanks have nothing to do with one another but through their columns.
func TestBlanks(t *testing.T) {
	for source, want := range map[string]string{
		"p :- q(_, _), q(_, 1).":                  "p() q(?n)",
		"p :- q(_, _). q(1, a).":                  "p() q(nt)",
		"p :- q(_), r(_). q(1). r(a).":            "p() q(n) r(t)",
		"p :- q(_), not r(_). q(1). r(a).":        "p() q(n) r(t)",
		"p :- not q(_, _), not r(_). q(1, a).":    "p() q(nt) r(?)",
		"p(X) :- q(X, _), r(_, X). q(1, a).":      "p(n) q(nt) r(?n)",
		"p(1) :- q(_). p(2) :- r(_). q(1). r(a).": "p(n) q(n) r(t)",
		"p(X) :- q(X, _), q(_, X). q(1, 2).":      "p(n) q(nn)",
	} {
		wantInfer(t, rulesOf(t, source), want)
	}
	refuseInfer(t, rulesOf(t, "p(X) :- q(X, _), q(_, X). q(1, a)."), 1, api.ErrType)
	refuseInfer(t, rulesOf(t, "p :- q(_). q(1). r :- not q(_). q(a)."), 3, api.ErrType)
	wantVars(t, ruleOf(t, "p(X) :- q(X, _), r(_, Y)."), sigsOf("q(nt) r(nt)"), "nt")
}

// P8.2: a variable of one rule has nothing to do with the same letter in another.
func TestVariablesOfTwoRules(t *testing.T) {
	wantInfer(t, rulesOf(t, "p(X) :- q(X), X = 1. r(X) :- s(X), X = a."), "p(n) q(n) r(t) s(t)")
	wantInfer(t, rulesOf(t, "p(X) :- q(X), X = 1. p(Y) :- s(Y, X)."), "p(n) q(n) s(n?)")
	refuseInfer(t, rulesOf(t, "p(X) :- q(X), X = 1. r(X) :- p(X), X = a."), 1, api.ErrType)
}

// P8.2: as wide, long and many as rules may be.
func TestGreatRules(t *testing.T) {
	long := "p" + strings.Repeat("z", 119)
	wantInfer(t, []api.Rule{rule(long, head(many(24)...), pos("wide", many(24)...), eq(ex(v("V23")), ex(n(1))))}, long+"("+strings.Repeat("?", 23)+"n) wide("+strings.Repeat("?", 23)+"n)")
	var wide []string
	for i := range 24 {
		wide = append(wide, strconv.Itoa(i%2))
	}
	source := strings.NewReplacer("0", "a", "1", "1").Replace("w(" + strings.Join(wide, ", ") + ").")
	wantInfer(t, rulesOf(t, source), "w("+strings.Repeat("tn", 12)+")")
	deep := ex(v("X"))
	for range 7 {
		deep = op(api.OpNeg, deep)
	}
	wantInfer(t, []api.Rule{rule("p", nil, pos("e", v("X")), cmp(deep, api.RelNe, deep))}, "e(n) p()")
	refuseInfer(t, []api.Rule{rule("p", nil, pos("e", v("X")), cmp(op(api.OpNeg, deep), api.RelNe, deep))}, 0, api.ErrTerm)
}

func name(i int) string { return "p" + strconv.Itoa(100000+i) }

// chain is rules that make the columns of so many predicates one class, in an order.
func chain(order []int) []api.Rule {
	var out []api.Rule
	for _, i := range order {
		out = append(out, rule(name(i), head(v("X")), pos(name(i+1), v("X"))))
	}
	return out
}

// P8.1, P8.2: long ways through many rules, in several orders; many predicates, in order.
func TestManyRules(t *testing.T) {
	const count = 20000
	var rising []int
	for i := range count {
		rising = append(rising, i)
	}
	falling := slices.Clone(rising)
	slices.Reverse(falling)
	d := dice(1)
	var want []string
	for i := range count + 1 {
		want = append(want, name(i)+"(n)")
	}
	for _, order := range [][]int{rising, falling, mixed(&d, rising)} {
		l := chain(order)
		wantInfer(t, append(l, rule(name(count), head(n(1)))), strings.Join(want, " "))
		refuseInfer(t, append(l, rule(name(count), head(n(1))), rule("a", nil), rule(name(0), head(s("a"))), rule("b", nil)), count+2, api.ErrType)
		refuseInfer(t, append(l, rule(name(count), head(n(1))), rule("a", nil), rule(name(count/2), nil), rule("b", nil)), count+2, api.ErrArity)
	}
	var star []api.Rule
	for i := range count {
		star = append(star, rule("hub", head(v("X")), pos(name(i+1), v("X"))))
	}
	wantInfer(t, append(star, rule("hub", head(n(1)))), "hub(n) "+strings.Join(want[1:], " "))
}
