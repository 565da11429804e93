package term_test

import (
	"math"
	"slices"
	"strconv"
	"strings"
	"testing"

	"pedigree/api"
	"pedigree/term"
)

func num(n int64) api.Value { return api.Value{Kind: api.KNum, Num: n} }

func text(s string) api.Value { return api.Value{Kind: api.KText, Text: s} }

func v(name string) api.Term { return api.Term{Var: name} }

func n(k int64) api.Term { return api.Term{Val: num(k)} }

func s(t string) api.Term { return api.Term{Val: text(t)} }

func atom(pred string, l ...api.Term) api.Atom { return api.Atom{Pred: pred, Args: l} }

func pos(pred string, l ...api.Term) api.Literal {
	return api.Literal{Kind: api.LPos, Atom: atom(pred, l...)}
}

func not(pred string, l ...api.Term) api.Literal {
	return api.Literal{Kind: api.LNot, Atom: atom(pred, l...)}
}

func cmp(left api.Expr, rel api.Rel, right api.Expr) api.Literal {
	return api.Literal{Kind: api.LCmp, Rel: rel, Left: left, Right: right}
}

func ex(t api.Term) api.Expr { return api.Expr{Term: t} }

func op(o api.Op, kids ...api.Expr) api.Expr { return api.Expr{Op: o, Kids: kids} }

func head(l ...api.Term) []api.Arg {
	var out []api.Arg
	for _, t := range l {
		out = append(out, api.Arg{Term: t})
	}
	return out
}

func rule(pred string, args []api.Arg, body ...api.Literal) api.Rule {
	return api.Rule{Pred: pred, Head: args, Body: body}
}

// names are n unlike variables.
func names(n int) []api.Term {
	var out []api.Term
	for i := range n {
		out = append(out, v("X"+strconv.Itoa(i)))
	}
	return out
}

// deep is 1 + (1 + .. (1 + 1)) of that depth.
func deep(depth int) api.Expr {
	e := ex(n(1))
	for range depth - 1 {
		e = op(api.OpAdd, ex(n(1)), e)
	}
	return e
}

// full is an expression of that depth with all the kids that it may have, its leaves the terms that next tells.
func full(depth int, next func() api.Term) api.Expr {
	if depth == 1 {
		return ex(next())
	}
	return op(api.OpMul, full(depth-1, next), full(depth-1, next))
}

const most = 120

// longest is a text of n bytes that begins with first and has letters, digits and _ behind it.
func longest(first string, n int) string {
	return (first + strings.Repeat("aZ09_", n))[:n]
}

func goodTerms() []api.Term {
	return []api.Term{v("X"), v("A"), v("Z"), v("Xyz_09A"), v("X_"), v("_"), v(longest("X", most)), v(strings.Repeat("Q", most)),
		n(5), n(0), n(math.MinInt64), n(math.MaxInt64), s(""), s("_"), s("X"), s("a b"), s("\xff\x00"), s(strings.Repeat("x", 200))}
}

func badTerms() []api.Term {
	out := []api.Term{{}, v("x"), v("not"), v("_X"), v("__"), v("0"), v("0X"), v(" X"), v("X "), v("X y"), v("X-"), v("\xc3\x84"), v("X\xc3\xa4"), v("X\x00"), v("@X"), v("[X"), v("`"), v("{"),
		v("X@"), v("X["), v("X`"), v("X{"), v("X/"), v("X:"), v("X^"), v(longest("X", most+1)), v(strings.Repeat("X", 100000)),
		{Val: api.Value{Num: 1}}, {Val: api.Value{Text: "a"}}, {Val: api.Value{Kind: api.KNum, Num: 1, Text: "a"}}, {Val: api.Value{Kind: api.KText, Num: 1, Text: "a"}},
		{Val: text(strings.Repeat("x", 201))}, {Val: api.Value{Kind: -1}}, {Val: api.Value{Kind: 3}}, {Val: api.Value{Kind: math.MaxInt8, Num: 1}}, {Val: api.Value{Kind: math.MinInt8}}}
	for _, name := range []string{"X", "_", "x"} {
		for _, w := range []api.Value{num(5), num(0), text(""), text("a"), {Num: 1}, {Text: "a"}, {Kind: 3}, {Kind: -1}} {
			out = append(out, api.Term{Var: name, Val: w})
		}
	}
	return out
}

func goodPreds() []string {
	return []string{"p", "a", "z", "q_p", "q_", "pX_9", "nott", "counts", "backs", longest("p", most)}
}

func badPreds() []string {
	return []string{"", "_", "P", "9", "p ", " p", "p-q", "p\xc3\xa4", "not", "count", "sum", "min", "max", "len", "chars", "back", "\"p\"", "\"\"", "`", "{", longest("p", most+1), strings.Repeat("p", 200), strings.Repeat("p", 201)}
}

func errno(ok bool) api.Errno {
	if ok {
		return api.OK
	}
	return api.ErrTerm
}

func wantTerm(t *testing.T, x api.Term, ok bool) {
	t.Helper()
	if got := term.CheckTerm(x); got != errno(ok) {
		t.Errorf("CheckTerm(%#v) = %d, want %d", x, got, errno(ok))
	}
}

func wantExpr(t *testing.T, x api.Expr, ok bool) {
	t.Helper()
	if got := term.CheckExpr(x); got != errno(ok) {
		t.Errorf("CheckExpr(%#v) = %d, want %d", x, got, errno(ok))
	}
}

func wantAtom(t *testing.T, x api.Atom, ok bool) {
	t.Helper()
	if got := term.CheckAtom(x); got != errno(ok) {
		t.Errorf("CheckAtom(%#v) = %d, want %d", x, got, errno(ok))
	}
}

func wantLiteral(t *testing.T, x api.Literal, ok bool) {
	t.Helper()
	if got := term.CheckLiteral(x); got != errno(ok) {
		t.Errorf("CheckLiteral(%#v) = %d, want %d", x, got, errno(ok))
	}
}

func wantRule(t *testing.T, x api.Rule, ok bool) {
	t.Helper()
	if got := term.CheckRule(x); got != errno(ok) {
		t.Errorf("CheckRule(%#v) = %d, want %d", x, got, errno(ok))
	}
}

// P4.1: the chapter's examples.
func TestCheckExamples(t *testing.T) {
	wantTerm(t, v("X"), true)
	wantTerm(t, v("_"), true)
	wantTerm(t, n(5), true)
	wantTerm(t, v("x"), false)
	wantTerm(t, api.Term{Var: "X", Val: num(5)}, false)
	wantTerm(t, api.Term{}, false)
	wantExpr(t, ex(v("_")), false)
	wantExpr(t, deep(8), true)
	wantExpr(t, deep(9), false)
	wantExpr(t, op(api.OpLen, ex(v("X")), ex(v("X"))), false)
	wantRule(t, rule("p", head(v("X")), pos("q", v("X"), v("_"))), true)
	wantRule(t, rule("p", head(v("_")), pos("q", v("_"))), false)
	wantRule(t, rule("p", []api.Arg{{Agg: api.AggSum, Term: v("X")}}, pos("q", v("X"))), true)
	wantRule(t, rule("p", []api.Arg{{Agg: api.AggSum, Term: n(5)}}), false)
}

// P4.1: terms, and every byte in a variable.
func TestCheckTerm(t *testing.T) {
	for _, x := range goodTerms() {
		wantTerm(t, x, true)
	}
	for _, x := range badTerms() {
		wantTerm(t, x, false)
	}
	const letters = "abcdefghijklmnopqrstuvwxyzABCDEFGHIJKLMNOPQRSTUVWXYZ"
	for b := range 256 {
		c := string([]byte{byte(b)})
		capital, inner := strings.Contains(letters[26:], c), strings.Contains(letters+"0123456789_", c)
		wantTerm(t, v(c), capital || c == "_")
		wantTerm(t, v(c+"a"), capital)
		wantTerm(t, v("X"+c), inner)
		wantTerm(t, v("X"+c+"9"), inner)
	}
	for k := math.MinInt8; k <= math.MaxInt8; k++ {
		kind := api.Kind(k)
		wantTerm(t, api.Term{Val: api.Value{Kind: kind}}, kind == api.KNum || kind == api.KText)
		wantTerm(t, api.Term{Var: "X", Val: api.Value{Kind: kind}}, k == 0)
		wantTerm(t, api.Term{Var: "_", Val: api.Value{Kind: kind}}, k == 0)
	}
}

// P4.1: every operation with every count of kids, and with a term beside them.
func TestCheckExprOperations(t *testing.T) {
	counts := map[api.Op]int{api.OpNeg: 1, api.OpAdd: 2, api.OpSub: 2, api.OpMul: 2, api.OpDiv: 2, api.OpMod: 2, api.OpCat: 2, api.OpLen: 1, api.OpChars: 1, api.OpBack: 1}
	for o := math.MinInt8; o <= math.MaxInt8; o++ {
		count, known := counts[api.Op(o)]
		for kids := range 4 {
			e := op(api.Op(o), slices.Repeat([]api.Expr{ex(v("X"))}, kids)...)
			wantExpr(t, e, known && kids == count)
			wantExpr(t, op(api.OpNeg, e), known && kids == count)
			wantExpr(t, op(api.OpAdd, ex(n(1)), e), known && kids == count)
			for _, x := range append(append(goodTerms(), badTerms()...), api.Term{Val: api.Value{Num: 1}}) {
				e.Term = x
				leaf := api.Op(o) == api.OpTerm && kids == 0 && x.Var != "_" && slices.Contains(goodTerms(), x)
				wantExpr(t, e, leaf || known && kids == count && x == api.Term{})
			}
		}
	}
	wantExpr(t, api.Expr{}, false)
	wantExpr(t, api.Expr{Kids: []api.Expr{{}}}, false)
	wantExpr(t, api.Expr{Term: v("X"), Kids: []api.Expr{}}, true)
	wantExpr(t, op(api.OpAdd, make([]api.Expr, 100000)...), false)
}

// P4.1: a wrong leaf anywhere, and the depth wherever it is too great.
func TestCheckExprDepth(t *testing.T) {
	for depth := 1; depth <= 12; depth++ {
		wantExpr(t, deep(depth), depth <= api.MaxDepth)
		e := deep(depth)
		wantExpr(t, op(api.OpSub, e, ex(n(1))), depth < api.MaxDepth)
		wantExpr(t, op(api.OpSub, ex(n(1)), e), depth < api.MaxDepth)
		wantExpr(t, op(api.OpBack, e), depth < api.MaxDepth)
	}
	for depth := 1; depth <= api.MaxDepth+1; depth++ {
		leaves := 1 << (depth - 1)
		for wrong := range leaves + 1 {
			at := -1
			e := full(depth, func() api.Term {
				if at++; at == wrong {
					return v("_")
				}
				return v("X")
			})
			wantExpr(t, e, wrong == leaves && depth <= api.MaxDepth)
		}
	}
	const nested = 60000
	wantExpr(t, deep(nested), false)
	cut := ex(v("X"))
	for range 60 {
		cut = op(api.OpAdd, cut, cut) // whoever looks at all of it does not end
	}
	wantExpr(t, cut, false)
	wantLiteral(t, cmp(ex(v("X")), api.RelEq, cut), false)
}

// P4.1: atoms.
func TestCheckAtom(t *testing.T) {
	for _, p := range goodPreds() {
		wantAtom(t, atom(p), true)
		wantAtom(t, atom(p, goodTerms()...), true)
		wantAtom(t, api.Atom{Pred: p, Args: []api.Term{}}, true)
	}
	for _, p := range badPreds() {
		wantAtom(t, atom(p), false)
		wantAtom(t, atom(p, v("X")), false)
	}
	wantAtom(t, api.Atom{}, false)
	for _, x := range badTerms() {
		wantAtom(t, atom("p", x), false)
		wantAtom(t, atom("p", v("X"), x), false)
		wantAtom(t, atom("p", x, v("X")), false)
	}
	for _, x := range goodTerms() {
		wantAtom(t, atom("p", slices.Repeat([]api.Term{x}, api.MaxWide)...), true)
		wantAtom(t, atom("p", slices.Repeat([]api.Term{x}, api.MaxWide+1)...), false)
	}
	wantAtom(t, atom("p", slices.Repeat([]api.Term{n(1)}, 100000)...), false)
}

// P4.1: every kind of literal with every field of another kind.
func TestCheckLiteral(t *testing.T) {
	x, y := ex(v("X")), ex(n(1))
	for k := math.MinInt8; k <= math.MaxInt8; k++ {
		kind := api.LitKind(k)
		isAtom := kind == api.LPos || kind == api.LNot
		wantLiteral(t, api.Literal{Kind: kind}, false)
		wantLiteral(t, api.Literal{Kind: kind, Atom: atom("p", v("_"))}, isAtom)
		wantLiteral(t, api.Literal{Kind: kind, Rel: api.RelEq, Left: x, Right: y}, kind == api.LCmp)
		wantLiteral(t, api.Literal{Kind: kind, Atom: atom("p", v("X")), Rel: api.RelEq, Left: x, Right: y}, false)
		for _, p := range badPreds() {
			wantLiteral(t, api.Literal{Kind: kind, Atom: atom(p, v("X"))}, false)
		}
		for _, e := range []api.Expr{x, y, deep(2), ex(v("_")), {Op: -1}, {Kids: []api.Expr{{}}}, {Term: api.Term{Val: api.Value{Num: 1}}}} {
			wantLiteral(t, api.Literal{Kind: kind, Atom: atom("p", v("X")), Left: e}, false)
			wantLiteral(t, api.Literal{Kind: kind, Atom: atom("p", v("X")), Right: e}, false)
		}
		none := api.Expr{Kids: []api.Expr{}}
		wantLiteral(t, api.Literal{Kind: kind, Atom: atom("p", v("X")), Left: none, Right: none}, isAtom)
	}
	for r := math.MinInt8; r <= math.MaxInt8; r++ {
		rel := api.Rel(r)
		wantLiteral(t, cmp(x, rel, y), r >= 1 && r <= 6)
		wantLiteral(t, api.Literal{Kind: api.LPos, Atom: atom("p"), Rel: rel}, r == 0)
		wantLiteral(t, api.Literal{Kind: api.LNot, Atom: atom("p"), Rel: rel}, r == 0)
	}
	wantLiteral(t, api.Literal{}, false)
	for _, a := range []api.Atom{{Pred: "p"}, {Pred: "P"}, {Args: []api.Term{{}}}, {Args: []api.Term{v("X")}}} {
		wantLiteral(t, api.Literal{Kind: api.LCmp, Atom: a, Rel: api.RelEq, Left: x, Right: y}, false)
	}
	wantLiteral(t, api.Literal{Kind: api.LCmp, Atom: api.Atom{Args: []api.Term{}}, Rel: api.RelEq, Left: x, Right: y}, true)
	for _, e := range []api.Expr{{}, ex(v("_")), deep(9), ex(v("x")), op(api.OpNeg), op(11, x)} {
		wantLiteral(t, cmp(e, api.RelEq, y), false)
		wantLiteral(t, cmp(x, api.RelEq, e), false)
	}
	wantLiteral(t, cmp(deep(8), api.RelGe, deep(8)), true)
	wantLiteral(t, not("p", n(1), v("X"), v("_")), true)
}

// P4.1: every aggregate with every term.
func TestCheckRuleArguments(t *testing.T) {
	for g := math.MinInt8; g <= math.MaxInt8; g++ {
		agg := api.Agg(g)
		for _, x := range append(goodTerms(), badTerms()...) {
			good := slices.Contains(goodTerms(), x) && x.Var != "_"
			ok := false
			switch agg {
			case api.AggNone:
				ok = good
			case api.AggCount:
				ok = x == api.Term{}
			case api.AggSum, api.AggMin, api.AggMax:
				ok = good && x.Var != ""
			}
			wantRule(t, rule("p", []api.Arg{{Agg: agg, Term: x}}), ok)
			wantRule(t, rule("p", append(head(v("X")), api.Arg{Agg: agg, Term: x}), pos("q", v("X"))), ok)
		}
	}
}

// P4.1: rules, and how much they may have.
func TestCheckRule(t *testing.T) {
	q := pos("q", v("X"), v("_"))
	for _, p := range goodPreds() {
		wantRule(t, rule(p, nil), true)
		wantRule(t, rule(p, head(v("X"), n(5)), q, not(p), cmp(ex(v("X")), api.RelNe, deep(3))), true)
	}
	for _, p := range badPreds() {
		wantRule(t, rule(p, nil), false)
		wantRule(t, rule(p, head(v("X")), q), false)
	}
	wantRule(t, api.Rule{}, false)
	wantRule(t, rule("p", nil, api.Literal{}), false)
	wantRule(t, rule("p", nil, q, api.Literal{Kind: 4}, q), false)
	wantRule(t, rule("p", nil, q, pos("q", v("x"))), false)
	for _, arg := range []api.Arg{{Term: v("X")}, {Term: n(1)}, {Agg: api.AggCount}, {Agg: api.AggMin, Term: v("X")}} {
		wantRule(t, rule("p", slices.Repeat([]api.Arg{arg}, api.MaxWide)), true)
		wantRule(t, rule("p", slices.Repeat([]api.Arg{arg}, api.MaxWide+1)), false)
	}
	for _, l := range []api.Literal{q, not("q"), cmp(ex(v("X")), api.RelEq, ex(n(1)))} {
		wantRule(t, rule("p", nil, slices.Repeat([]api.Literal{l}, api.MaxBody)...), true)
		wantRule(t, rule("p", nil, slices.Repeat([]api.Literal{l}, api.MaxBody+1)...), false)
	}
	wantRule(t, rule("p", make([]api.Arg, 100000), make([]api.Literal, 100000)...), false)
}

// P4.1: MaxVars variables and one more, wherever they stand.
func TestCheckRuleVariables(t *testing.T) {
	l := names(api.MaxVars)
	extra := v("Y")
	next := -1
	leaves := func() api.Term {
		next++
		return l[next%len(l)]
	}
	wantRule(t, rule("p", head(l...)), true)
	wantRule(t, rule("p", head(l...), pos("q", l...), not("q", l...), pos("q", v("_"), n(1)), cmp(full(8, leaves), api.RelEq, full(8, leaves))), true)
	for _, body := range []api.Literal{pos("q", extra), not("q", extra), cmp(ex(extra), api.RelEq, ex(n(1))), cmp(ex(n(1)), api.RelEq, ex(extra)), cmp(ex(n(1)), api.RelEq, op(api.OpNeg, ex(extra)))} {
		wantRule(t, rule("p", head(l...), body), false)
		wantRule(t, rule("p", head(l[1:]...), body), true)
		wantRule(t, rule("p", head(l[1:]...), body, pos("q", l[0])), false)
	}
	wantRule(t, rule("p", append(head(l[1:]...), api.Arg{Agg: api.AggSum, Term: extra}), pos("q", l...)), false)
	wantRule(t, rule("p", append(head(l[1:]...), api.Arg{Agg: api.AggSum, Term: extra}), pos("q", l[1:]...)), true)
	wantRule(t, rule("p", nil, pos("q", names(api.MaxWide)...), pos("q", names(api.MaxWide)...)), true)
}
