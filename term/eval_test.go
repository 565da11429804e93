package term_test

import (
	"math"
	"strings"
	"testing"

	"pedigree/api"
	"pedigree/term"
	"pedigree/value"
)

func wantEval(t *testing.T, e api.Expr, want api.Value, l ...api.Bind) {
	t.Helper()
	if got, ok := term.Eval(e, l); got != want || ok != (want != api.Value{}) {
		t.Errorf("Eval(%#v, %#v) = %#v, %v; want %#v", e, l, got, ok, want)
	}
}

var nothing = api.Value{}

// P4.7: the chapter's examples.
func TestEvalExamples(t *testing.T) {
	e := op(api.OpAdd, ex(v("X")), ex(n(1)))
	wantEval(t, e, num(6), bind("X", num(5)))
	wantEval(t, e, nothing, bind("X", text("a")))
	wantEval(t, e, nothing, bind("Y", num(5)))
	wantEval(t, e, num(6), bind("X", num(5)), bind("X", num(6)))
}

// P4.7: the first element of the name, and elements that say no value.
func TestEvalVariables(t *testing.T) {
	x := ex(v("X"))
	wantEval(t, x, nothing)
	wantEval(t, x, text(""), bind("Y", num(1)), bind("X", text("")), bind("X", num(2)))
	wantEval(t, x, nothing, bind("X", nothing), bind("X", num(2)))
	wantEval(t, x, num(2), bind("x", num(1)), bind("", num(1)), bind("_", num(1)), bind("XX", num(1)), bind("X", num(2)))
	for _, w := range []api.Value{{Num: 1}, {Kind: 3, Num: 1}, {Kind: -1}, {Kind: api.KNum, Text: "a"}, {Kind: api.KText, Num: 1}, text(strings.Repeat("a", 201))} {
		wantEval(t, x, nothing, bind("X", w))
		wantEval(t, x, nothing, bind("X", w), bind("X", num(1)))
		wantEval(t, op(api.OpBack, x), nothing, bind("X", w))
		wantEval(t, op(api.OpNeg, ex(n(1))), num(-1), bind("X", w))
	}
	wantEval(t, ex(n(5)), num(5), bind("", num(6)), bind("_", num(7)))
	wantEval(t, ex(s("")), text(""), bind("", num(6)))
	wantEval(t, ex(v(longest("X", most))), num(1), bind(longest("X", most), num(1)))
}

// P4.7: every operation, its kids in their order.
func TestEvalOperations(t *testing.T) {
	x, y := ex(v("X")), ex(v("Y"))
	seven, two := bind("X", num(7)), bind("Y", num(2))
	wantEval(t, op(api.OpNeg, x), num(-7), seven)
	wantEval(t, op(api.OpAdd, x, y), num(9), seven, two)
	wantEval(t, op(api.OpSub, x, y), num(5), seven, two)
	wantEval(t, op(api.OpSub, y, x), num(-5), seven, two)
	wantEval(t, op(api.OpMul, x, y), num(14), seven, two)
	wantEval(t, op(api.OpDiv, x, y), num(3), seven, two)
	wantEval(t, op(api.OpMod, x, y), num(1), seven, two)
	wantEval(t, op(api.OpDiv, x, ex(n(0))), nothing, seven)
	wantEval(t, op(api.OpAdd, ex(n(1)), op(api.OpMod, x, ex(n(0)))), nothing, seven)
	wantEval(t, op(api.OpAdd, ex(n(math.MaxInt64)), ex(n(1))), num(math.MinInt64))
	ab, c := bind("X", text("ab")), bind("Y", text("c"))
	wantEval(t, op(api.OpCat, x, y), text("abc"), ab, c)
	wantEval(t, op(api.OpLen, op(api.OpCat, x, op(api.OpBack, x))), num(4), ab)
	wantEval(t, op(api.OpBack, x), text("ba"), ab)
	wantEval(t, op(api.OpChars, ex(s("\xc3\xa9a"))), num(2))
	wantEval(t, op(api.OpAdd, x, op(api.OpLen, x)), nothing, ab)
	wantEval(t, op(api.OpMul, x, y), nothing, seven)
	wantEval(t, op(api.OpMul, x, y), nothing, two)
	wantEval(t, op(api.OpCat, ex(s(strings.Repeat("a", 200))), y), nothing, c)
}

// P4.7: expressions that may not be have no value, whatever else would come out.
func TestEvalOfNoExpression(t *testing.T) {
	one := ex(n(1))
	l := []api.Bind{bind("X", num(1)), bind("_", num(2)), bind("", num(3)), bind("x", num(4))}
	wantEval(t, deep(8), num(8))
	wantEval(t, deep(9), nothing)
	wantEval(t, deep(50000), nothing)
	for o := math.MinInt8; o <= math.MaxInt8; o++ {
		for kids := range 4 {
			e := op(api.Op(o), []api.Expr{one, one, one}[:kids]...)
			if term.CheckExpr(e) != api.OK {
				wantEval(t, e, nothing, l...)
				wantEval(t, op(api.OpAdd, one, e), nothing, l...)
			}
			e.Term = v("X")
			if o != 0 || kids != 0 {
				wantEval(t, e, nothing, l...)
			}
		}
	}
	for _, x := range append(badTerms(), v("_")) {
		wantEval(t, ex(x), nothing, append(l, bind(x.Var, num(5)))...)
		wantEval(t, op(api.OpAdd, one, ex(x)), nothing, append(l, bind(x.Var, num(5)))...)
		wantEval(t, op(api.OpAdd, ex(x), one), nothing, append(l, bind(x.Var, num(5)))...)
	}
}

// P4.9: an operation's value is what value.Arith gives of its kids', and hangs on its own variables alone.
func TestEvalIsArith(t *testing.T) {
	values := []api.Value{num(0), num(1), num(-1), num(7), num(math.MinInt64), num(math.MaxInt64), text(""), text("a"), text("\xc3\xa9b"), text("\xff"), text(strings.Repeat("a", 199)), text(strings.Repeat("a", 200))}
	other := bind("Z", num(1))
	for o := api.OpNeg; o <= api.OpBack; o++ {
		for _, a := range values {
			if want, ok := value.Arith(o, a); ok || o == api.OpNeg || o >= api.OpLen {
				wantEval(t, op(o, ex(v("X"))), want, bind("X", a), other)
				wantEval(t, op(o, ex(api.Term{Val: a})), want)
				continue
			}
			for _, b := range values {
				want, _ := value.Arith(o, a, b)
				wantEval(t, op(o, ex(v("X")), ex(v("Y"))), want, other, bind("Y", b), bind("X", a))
				wantEval(t, op(o, ex(api.Term{Val: a}), ex(v("Y"))), want, bind("X", b), bind("Y", b), bind("Y", a))
				nested, _ := value.Arith(o, want, a)
				wantEval(t, op(o, op(o, ex(v("X")), ex(v("Y"))), ex(v("X"))), nested, bind("X", a), bind("Y", b))
			}
		}
	}
}
