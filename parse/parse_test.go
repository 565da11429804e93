package parse_test

import (
	"fmt"
	"math"
	"reflect"
	"slices"
	"strconv"
	"strings"
	"testing"

	"pedigree/api"
	"pedigree/parse"
)

func num(n int64) api.Value { return api.Value{Kind: api.KNum, Num: n} }

func text(s string) api.Value { return api.Value{Kind: api.KText, Text: s} }

func v(name string) api.Term { return api.Term{Var: name} }

func n(k int64) api.Term { return api.Term{Val: num(k)} }

func s(t string) api.Term { return api.Term{Val: text(t)} }

func atom(pred string, l ...api.Term) api.Atom { return api.Atom{Pred: pred, Args: l} }

func pos(pred string, l ...api.Term) api.Literal {
	return api.Literal{Kind: api.LPos, Atom: atom(pred, l...)}
}

func not(pred string, l ...api.Term) api.Literal {
	return api.Literal{Kind: api.LNot, Atom: atom(pred, l...)}
}

func cmp(left api.Expr, rel api.Rel, right api.Expr) api.Literal {
	return api.Literal{Kind: api.LCmp, Rel: rel, Left: left, Right: right}
}

func ex(t api.Term) api.Expr { return api.Expr{Term: t} }

func op(o api.Op, kids ...api.Expr) api.Expr { return api.Expr{Op: o, Kids: kids} }

func head(l ...api.Term) []api.Arg {
	var out []api.Arg
	for _, t := range l {
		out = append(out, api.Arg{Term: t})
	}
	return out
}

func rule(pred string, args []api.Arg, body ...api.Literal) api.Rule {
	return api.Rule{Pred: pred, Head: args, Body: body}
}

func fact(pred string, l ...api.Value) api.Fact { return api.Fact{Pred: pred, Args: l} }

func fault(code api.Errno, at int) api.Fault { return api.Fault{Code: code, At: at} }

// told writes a thing out; an empty list and nil are the same.
func told(x reflect.Value) string {
	var out strings.Builder
	switch x.Kind() {
	case reflect.Struct:
		for i := range x.NumField() {
			out.WriteString(told(x.Field(i)) + ";")
		}
	case reflect.Slice:
		out.WriteString("[")
		for i := range x.Len() {
			out.WriteString(told(x.Index(i)) + ",")
		}
		out.WriteString("]")
	default:
		fmt.Fprintf(&out, "%#v", x.Interface())
	}
	return out.String()
}

func same[T any](a, b T) bool { return told(reflect.ValueOf(a)) == told(reflect.ValueOf(b)) }

// brief cuts off what is too long for a remark.
func brief(form string, x any) string {
	const most = 400
	out := fmt.Sprintf(form, x)
	if len(out) > most {
		return out[:most] + " .."
	}
	return out
}

// want holds one call against what it should answer.
func want[T any](t *testing.T, name string, call func(string) (T, api.Fault), source string, answer T, f api.Fault) {
	t.Helper()
	got, at := call(source)
	if at != f || !same(got, answer) {
		t.Errorf("%s(%s) = %s, %v; want %s, %v", name, brief("%q", source), brief("%#v", got), at, brief("%#v", answer), f)
	}
}

func wantProgram(t *testing.T, source string, rules ...api.Rule) {
	t.Helper()
	want(t, "Program", parse.Program, source, api.Program{Rules: rules}, api.Fault{})
}

// wantRule asks Rule and Program, which agree on a source of one rule.
func wantRule(t *testing.T, source string, r api.Rule) {
	t.Helper()
	want(t, "Rule", parse.Rule, source, r, api.Fault{})
	wantProgram(t, source, r)
}

func wantFacts(t *testing.T, source string, l ...api.Fact) {
	t.Helper()
	want(t, "Facts", parse.Facts, source, l, api.Fault{})
}

func wantQuery(t *testing.T, source string, a api.Atom) {
	t.Helper()
	want(t, "Query", parse.Query, source, a, api.Fault{})
}

func badProgram(t *testing.T, source string, code api.Errno, at int) {
	t.Helper()
	want(t, "Program", parse.Program, source, api.Program{}, fault(code, at))
}

func badRule(t *testing.T, source string, code api.Errno, at int) {
	t.Helper()
	want(t, "Rule", parse.Rule, source, api.Rule{}, fault(code, at))
}

func badFacts(t *testing.T, source string, code api.Errno, at int) {
	t.Helper()
	want(t, "Facts", parse.Facts, source, nil, fault(code, at))
}

func badQuery(t *testing.T, source string, code api.Errno, at int) {
	t.Helper()
	want(t, "Query", parse.Query, source, api.Atom{}, fault(code, at))
}

// badAll asks all four.
func badAll(t *testing.T, source string, code api.Errno, at int) {
	t.Helper()
	badProgram(t, source, code, at)
	badRule(t, source, code, at)
	badFacts(t, source, code, at)
	badQuery(t, source, code, at)
}

// wantExpr reads the expression at both sides of a comparison.
func wantExpr(t *testing.T, source string, e api.Expr) {
	t.Helper()
	wantRule(t, "p :- X = "+source+".", rule("p", nil, cmp(ex(v("X")), api.RelEq, e)))
	wantRule(t, "p :- "+source+" < 1.", rule("p", nil, cmp(e, api.RelLt, ex(n(1)))))
}

const least = math.MinInt64

// The chapter's examples.
func TestExamples(t *testing.T) {
	wantProgram(t, "")
	badProgram(t, `p. q(1, "b c", _x).`, api.ErrByte, 15)
	wantRule(t, `anc(X, Y) :- par(X, Z), anc(Z, Y).`, rule("anc", head(v("X"), v("Y")), pos("par", v("X"), v("Z")), pos("anc", v("Z"), v("Y"))))
	wantRule(t, `p() :- not q, r(_).`, rule("p", nil, not("q"), pos("r", v("_"))))
	wantRule(t, `n(X, count()) :- e(X, Y), Y - 1 < -3 * X + 2.`, rule("n", []api.Arg{{Term: v("X")}, {Agg: api.AggCount}}, pos("e", v("X"), v("Y")),
		cmp(op(api.OpSub, ex(v("Y")), ex(n(1))), api.RelLt, op(api.OpAdd, op(api.OpMul, ex(n(-3)), ex(v("X"))), ex(n(2))))))
	wantRule(t, `p(X) :- X = - - 5 & -(7).`, rule("p", head(v("X")), cmp(ex(v("X")), api.RelEq, op(api.OpCat, op(api.OpNeg, ex(n(-5))), op(api.OpNeg, ex(n(7)))))))
	wantRule(t, `p(X) :- X = a - b - c.`, rule("p", head(v("X")), cmp(ex(v("X")), api.RelEq, op(api.OpSub, op(api.OpSub, ex(s("a")), ex(s("b"))), ex(s("c"))))))
	wantRule(t, `p(-9223372036854775808).`, rule("p", head(n(least))))
	badRule(t, `p(9223372036854775808).`, api.ErrSyntax, 2)
	badRule(t, `p(X) :- X = Y - 9223372036854775808.`, api.ErrSyntax, 16)
	badRule(t, `p(X) :- q, = 3.`, api.ErrSyntax, 11)
	badRule(t, `p(X) :- q(X) = 3.`, api.ErrSyntax, 13)
	badRule(t, `p :- a + b.`, api.ErrSyntax, 10)
	badRule(t, `p(_).`, api.ErrSyntax, 2)
	badRule(t, `p(X) :- X = _.`, api.ErrSyntax, 12)
	badRule(t, `p(sum(3)).`, api.ErrSyntax, 6)
	badRule(t, `p. q.`, api.ErrSyntax, 3)
	badRule(t, `p`, api.ErrSyntax, 1)
	badRule(t, ``, api.ErrSyntax, 0)
	wantRule(t, `p(X) :- X = 1+1+1+1+1+1+1+1.`, rule("p", head(v("X")), cmp(ex(v("X")), api.RelEq, ones(8))))
	badRule(t, `p(X) :- X = 1+1+1+1+1+1+1+1 + 1.`, api.ErrDeep, 0)
	badRule(t, "p :- q"+strings.Repeat(", q", 16)+".", api.ErrMany, 0)
	badRule(t, "p(1"+strings.Repeat(", 1", 24)+").", api.ErrMany, 0)
	wantFacts(t, `p(1). p(1). q(-2, b). z.`, fact("p", num(1)), fact("p", num(1)), fact("q", num(-2), text("b")), fact("z"))
	badFacts(t, `p(a, X).`, api.ErrGround, 5)
	badFacts(t, `p(-X).`, api.ErrSyntax, 3)
	badFacts(t, `p(a X).`, api.ErrSyntax, 4)
	badFacts(t, `p(_, !).`, api.ErrByte, 5)
	badFacts(t, `p :- q.`, api.ErrSyntax, 2)
	wantQuery(t, `anc(X, _, X)?`, atom("anc", v("X"), v("_"), v("X")))
	wantQuery(t, `p?`, atom("p"))
	badQuery(t, `p(X).`, api.ErrSyntax, 4)
	badQuery(t, `p? q`, api.ErrSyntax, 3)
}

// ones is 1 + 1 + .. of that depth, the one to the left done first.
func ones(depth int) api.Expr {
	e := ex(n(1))
	for range depth - 1 {
		e = op(api.OpAdd, e, ex(n(1)))
	}
	return e
}

// P5.2, P5.3: what is read of heads and bodies.
func TestRules(t *testing.T) {
	wantRule(t, `p.`, rule("p", nil))
	wantRule(t, `p().`, rule("p", nil))
	wantRule(t, `p(bo, "bo", "Bo", "count", "", 0, -0, -7).`, rule("p", head(s("bo"), s("bo"), s("Bo"), s("count"), s(""), n(0), n(0), n(-7))))
	wantRule(t, `q_m(X, count(), sum(X), min(Y), max(Z)).`, rule("q_m", []api.Arg{{Term: v("X")}, {Agg: api.AggCount}, {Agg: api.AggSum, Term: v("X")}, {Agg: api.AggMin, Term: v("Y")}, {Agg: api.AggMax, Term: v("Z")}}))
	wantRule(t, `p :- q, r(), s(a, "b c", -1, X, _, _), not t, not u(), not v(_, -1).`, rule("p", nil,
		pos("q"), pos("r"), pos("s", s("a"), s("b c"), n(-1), v("X"), v("_"), v("_")), not("t"), not("u"), not("v", v("_"), n(-1))))
	wantRule(t, `p :- a = b, "a" != B, 1 < -1, X <= Y, (a) > b, len(X) >= 2.`, rule("p", nil,
		cmp(ex(s("a")), api.RelEq, ex(s("b"))), cmp(ex(s("a")), api.RelNe, ex(v("B"))), cmp(ex(n(1)), api.RelLt, ex(n(-1))),
		cmp(ex(v("X")), api.RelLe, ex(v("Y"))), cmp(ex(s("a")), api.RelGt, ex(s("b"))), cmp(op(api.OpLen, ex(v("X"))), api.RelGe, ex(n(2)))))
	wantProgram(t, "p. q.\n p. # p.", rule("p", nil), rule("q", nil), rule("p", nil))
	wantProgram(t, "p(X):-q(X).r:-not p(1).", rule("p", head(v("X")), pos("q", v("X"))), rule("r", nil, not("p", n(1))))
	wantProgram(t, " \t\r\n# nothing")
}

// A text between quotes that is of a sign's or a keyword's bytes is a text.
func TestTextsAreNoSigns(t *testing.T) {
	for _, word := range []string{"(", ")", ",", ".", "?", ":-", "=", "!=", "<", "<=", ">", ">=", "+", "-", "*", "/", "%", "&", "not", "count", "sum", "min", "max", "len", "chars", "back", "_", "X", ""} {
		quoted := strconv.Quote(word)
		wantRule(t, "p("+quoted+", "+quoted+") :- q("+quoted+"), "+quoted+" = "+quoted+".", rule("p", head(s(word), s(word)), pos("q", s(word)), cmp(ex(s(word)), api.RelEq, ex(s(word)))))
		wantFacts(t, "p("+quoted+").", fact("p", text(word)))
		wantQuery(t, "p("+quoted+")?", atom("p", s(word)))
		badAll(t, quoted, api.ErrSyntax, 0)
		badAll(t, "p "+quoted, api.ErrSyntax, 2)
		badAll(t, "p(1 "+quoted+" 2)", api.ErrSyntax, 4)
		badRule(t, "p(1) "+quoted+" q.", api.ErrSyntax, 5)
		badRule(t, "p :- X "+quoted+" Y.", api.ErrSyntax, 7)
		badRule(t, "p :- a "+quoted+" Y.", api.ErrSyntax, 7)
		badRule(t, "p(sum "+quoted+"X)).", api.ErrSyntax, 6)
		badRule(t, "p :- X = len "+quoted, api.ErrSyntax, 13)
		badRule(t, "p :- X = (1"+quoted, api.ErrSyntax, 11)
	}
}

// Which of two operations is done first, and what each sign and word says.
func TestOperations(t *testing.T) {
	x, y, z, a := ex(v("X")), ex(v("Y")), ex(v("Z")), ex(s("a"))
	signs := []string{"+", "-", "*", "/", "%", "&"}
	ops := []api.Op{api.OpAdd, api.OpSub, api.OpMul, api.OpDiv, api.OpMod, api.OpCat}
	strong := []bool{false, false, true, true, true, false}
	for i, first := range signs {
		wantExpr(t, "X"+first+" a", op(ops[i], x, a))
		wantExpr(t, "a "+first+" X", op(ops[i], a, x))
		wantExpr(t, "-X"+first+"-a", op(ops[i], op(api.OpNeg, x), op(api.OpNeg, a)))
		wantExpr(t, "- 1"+first+"- 2", op(ops[i], ex(n(-1)), ex(n(-2))))
		for j, second := range signs {
			tree := op(ops[j], op(ops[i], x, y), z)
			if strong[j] && !strong[i] {
				tree = op(ops[i], x, op(ops[j], y, z))
			}
			wantExpr(t, "X"+first+"Y"+second+"Z", tree)
			wantExpr(t, "(X"+first+"Y)"+second+"Z", op(ops[j], op(ops[i], x, y), z))
			wantExpr(t, "X"+first+"(Y"+second+"Z)", op(ops[i], x, op(ops[j], y, z)))
			wantExpr(t, "X"+first+"-(Y"+second+"Z)", op(ops[i], x, op(api.OpNeg, op(ops[j], y, z))))
		}
	}
	for i, word := range []string{"len", "chars", "back"} {
		o := api.OpLen + api.Op(i)
		wantExpr(t, word+"(X)", op(o, x))
		wantExpr(t, "-"+word+"(a*Y-Z)", op(api.OpNeg, op(o, op(api.OpSub, op(api.OpMul, a, y), z))))
		wantExpr(t, word+"("+word+"((X)))*Y", op(api.OpMul, op(o, op(o, x)), y))
	}
	wantExpr(t, "1 - 2 * 3 - 4 & 5 % 6 * 7", op(api.OpCat, op(api.OpSub, op(api.OpSub, ex(n(1)), op(api.OpMul, ex(n(2)), ex(n(3)))), ex(n(4))), op(api.OpMul, op(api.OpMod, ex(n(5)), ex(n(6))), ex(n(7)))))
	wantExpr(t, "- - - X", op(api.OpNeg, op(api.OpNeg, op(api.OpNeg, x))))
	wantExpr(t, "- - - 1", op(api.OpNeg, op(api.OpNeg, ex(n(-1)))))
	wantExpr(t, "-(-1)", op(api.OpNeg, ex(n(-1))))
	wantExpr(t, "-(((1)))", op(api.OpNeg, ex(n(1))))
	wantExpr(t, `"1" - -1`, op(api.OpSub, ex(s("1")), ex(n(-1))))
}

// The number that is too great by itself may stand right behind a minus that is not between two.
func TestLeastNumber(t *testing.T) {
	const big = "9223372036854775808"
	wantExpr(t, "-"+big, ex(n(least)))
	wantExpr(t, "- # x\n"+big, ex(n(least)))
	wantExpr(t, "- -"+big, op(api.OpNeg, ex(n(least))))
	wantExpr(t, "Y - -"+big, op(api.OpSub, ex(v("Y")), ex(n(least))))
	wantExpr(t, "-"+big+" - -"+big, op(api.OpSub, ex(n(least)), ex(n(least))))
	wantExpr(t, "len(-"+big+")", op(api.OpLen, ex(n(least))))
	wantExpr(t, "9223372036854775807 * -9223372036854775807", op(api.OpMul, ex(n(math.MaxInt64)), ex(n(-math.MaxInt64))))
	wantFacts(t, "p(-"+big+", 9223372036854775807).", fact("p", num(least), num(math.MaxInt64)))
	wantQuery(t, "p(-"+big+")?", atom("p", n(least)))
	wantRule(t, "p(-"+big+") :- q(-"+big+").", rule("p", head(n(least)), pos("q", n(least))))
	badAll(t, "p("+big+")", api.ErrSyntax, 2)
	badAll(t, "p(1,"+big+")", api.ErrSyntax, 4)
	badAll(t, "p(--"+big+")", api.ErrSyntax, 3)
	badRule(t, "p :- q("+big+").", api.ErrSyntax, 7)
	badRule(t, "p :- not q("+big+").", api.ErrSyntax, 11)
	for _, ahead := range []string{"", "X = ", "X = (", "X = -(", "X = len(", "a -", "X = Y -", "X = 1*", "X = -1-", "X < Y%-Z-"} {
		badRule(t, "p :- "+ahead+big+".", api.ErrSyntax, len("p :- "+ahead))
	}
}

// P5.4: a variable or a _ where a value may stand is ErrGround, anywhere else ErrSyntax.
func TestGround(t *testing.T) {
	for _, w := range []string{"X", "_"} {
		badFacts(t, "p("+w, api.ErrGround, 2)
		badFacts(t, "p("+w+").", api.ErrGround, 2)
		badFacts(t, "p(1,"+w+").", api.ErrGround, 4)
		badFacts(t, "p(1, a, \"\", -1,\n"+w+" =", api.ErrGround, 16)
		badFacts(t, "p. q(1). r(b,"+w, api.ErrGround, 13)
		for _, ahead := range []string{"", "p", "p(1", "p(a", "p(-", "p(-1", "p()", "p(1)", "p.", "p(1).", "p(1, -"} {
			badFacts(t, ahead+" "+w, api.ErrSyntax, len(ahead)+1)
		}
		badFacts(t, "p(1. q("+w+").", api.ErrSyntax, 3)
		badFacts(t, "p(count(), "+w+").", api.ErrSyntax, 2)
	}
	badFacts(t, "p(X, _", api.ErrGround, 2)
	badFacts(t, "p(1,).", api.ErrSyntax, 4)
	badFacts(t, "p(,X).", api.ErrSyntax, 2)
}

// wide is brackets with that many columns.
func wide(columns int, one string) string {
	if columns == 0 {
		return "()"
	}
	return "(" + strings.Repeat(one+",", columns-1) + one + ")"
}

// vars are that many unlike variables, with commas.
func vars(from, count int) string {
	var out []string
	for i := range count {
		out = append(out, "X"+strconv.Itoa(from+i))
	}
	return strings.Join(out, ", ")
}

// P5.2, P5.3: how deep and how much; brackets that say nothing count for nothing.
func TestLimitsOfRules(t *testing.T) {
	goods := []string{
		"p :- X = " + strings.Repeat("-", 7) + "X.",
		"p :- X = " + strings.Repeat("-", 8) + "1.",
		"p :- " + strings.Repeat("-", 7) + "X = X.",
		"p :- " + strings.Repeat("len(", 7) + "X" + strings.Repeat(")", 7) + " = 1.",
		"p :- 1 = " + strings.Repeat("(1 * ", 7) + "X" + strings.Repeat(")", 7) + ".",
		"p :- " + strings.Repeat("(", 30) + strings.Repeat("-", 7) + "X" + strings.Repeat(")", 30) + " < " + strings.Repeat("(", 9) + "1" + strings.Repeat(")", 9) + ".",
		"p :- X = 1*1*1*1*1*1*1 + 1*1*1*1*1*1*1.",
		"p :- X = (1+(2-(3&(-4*(5/(6%(len(X)))))))), q.",
		"p :- q" + strings.Repeat(", q", 15) + ".",
		"p :- X = 1" + strings.Repeat(", not q", 15) + ".",
		"p" + wide(24, "1") + " :- q" + wide(24, "X") + ", not r" + wide(24, "_") + ".",
		"p" + wide(24, "count()") + ".",
		"p" + wide(24, "sum(X)") + ".",
		"p(" + vars(0, 24) + ").",
		"p(" + vars(0, 12) + ") :- q(" + vars(6, 12) + ", _), X17 < X18 + X19 & len(X20 - -X21), not q(X22, X23), X0 = X23, q(_, _).",
	}
	deep := []string{
		"p :- X = " + strings.Repeat("-", 8) + "X.",
		"p :- X = " + strings.Repeat("-", 9) + "1.",
		"p :- " + strings.Repeat("-", 8) + "X = X.",
		"p :- " + strings.Repeat("len(", 8) + "X" + strings.Repeat(")", 8) + " = 1.",
		"p :- 1 = " + strings.Repeat("(1 * ", 8) + "X" + strings.Repeat(")", 8) + ".",
		"p :- X = 1*1*1*1*1*1*1 + 1*1*1*1*1*1*1*1.",
		"p :- X = 1*1*1*1*1*1*1*1 + 1.",
		"p :- q(X), not q, X > " + strings.Repeat("-", 8) + "X, X = 1.",
		"p" + wide(25, "1") + " :- " + strings.Repeat("q, ", 20) + "X = " + strings.Repeat("-", 8) + "X, q(" + vars(0, 30) + ").",
	}
	many := []string{
		"p :- q" + strings.Repeat(", q", 16) + ".",
		"p :- X = 1" + strings.Repeat(", X = 1", 16) + ".",
		"p :- not q" + strings.Repeat(", not q", 99) + ".",
		"p" + wide(25, "1") + ".",
		"p" + wide(25, "count()") + ".",
		"p" + wide(25, "max(X)") + ".",
		"p" + wide(25, "X") + " :- q(X).",
		"p :- q" + wide(25, "_") + ".",
		"p :- q, not q" + wide(25, "1") + ", q.",
		"p(" + vars(0, 24) + ") :- q(Y).",
		"p :- q(" + vars(0, 24) + "), Y = 1.",
		"p(" + vars(0, 12) + ") :- q(" + vars(6, 12) + ", _), X17 < X18 + X19 & len(X20 - -X21), not q(X22, X23), X0 = X24, q(_, _).",
		"p :- X = 1, Y = 2, q(" + vars(0, 23) + ").",
	}
	for _, source := range goods {
		if got, f := parse.Rule(source); f != (api.Fault{}) || got.Pred != "p" {
			t.Errorf("Rule(%q) = %v", source, f)
		}
		if got, f := parse.Program(source); f != (api.Fault{}) || len(got.Rules) != 1 {
			t.Errorf("Program(%q) = %v", source, f)
		}
	}
	for i, source := range slices.Concat(deep, many) {
		code := api.ErrMany
		if i < len(deep) {
			code = api.ErrDeep
		}
		badRule(t, source, code, 0)
		badRule(t, " # p\n "+source, code, 6)
		badRule(t, source+"q.", api.ErrSyntax, len(source))
		badRule(t, source[:len(source)-1], api.ErrSyntax, len(source)-1)
		badProgram(t, source, code, 0)
		badProgram(t, "p. \n"+source+" p", code, 4)
		badProgram(t, source+":- X", code, 0)
		badProgram(t, "p. "+source[:len(source)-1]+"?", api.ErrSyntax, len(source)+2)
		badProgram(t, source+"!", api.ErrByte, len(source))
	}
}

// P5.2, P5.4: rule by rule, and fact by fact, from the left.
func TestFromTheLeft(t *testing.T) {
	deep, many := "p :- X = --------X.", "p"+wide(25, "1")+"."
	badProgram(t, strings.Join([]string{many, deep, "."}, " "), api.ErrMany, 0)
	badProgram(t, strings.Join([]string{deep, many, "."}, " "), api.ErrDeep, 0)
	badProgram(t, strings.Join([]string{"p. :-", deep, many}, " "), api.ErrSyntax, 3)
	badProgram(t, strings.Join([]string{"p.", "q(1).", many, deep}, " "), api.ErrMany, 9)
	badProgram(t, strings.Join([]string{"p.", "q(X, _).", many, deep}, " "), api.ErrSyntax, 8)
	badFacts(t, strings.Join([]string{many, "p(X)."}, " "), api.ErrMany, 0)
	badFacts(t, strings.Join([]string{"p(X).", many}, " "), api.ErrGround, 2)
	badFacts(t, strings.Join([]string{"p.", many, "."}, " "), api.ErrMany, 3)
	badFacts(t, strings.Join([]string{"p.", ".", many}, " "), api.ErrSyntax, 3)
	badFacts(t, "p(1"+strings.Repeat(", 1", 30)+", X).", api.ErrGround, 95)
	badFacts(t, "p(1"+strings.Repeat(", 1", 30)+" X).", api.ErrSyntax, 94)
	badFacts(t, "p(1"+strings.Repeat(", 1", 30)+")", api.ErrSyntax, 94)
}

// P5.4, P5.5: the columns of facts and queries.
func TestLimitsOfFactsAndQueries(t *testing.T) {
	wantFacts(t, "p"+wide(24, "-1")+". p()."+"q"+wide(24, "a")+".", fact("p", slices.Repeat([]api.Value{num(-1)}, 24)...), fact("p"), fact("q", slices.Repeat([]api.Value{text("a")}, 24)...))
	badFacts(t, " p"+wide(25, "1")+".", api.ErrMany, 1)
	badFacts(t, "p"+wide(24, "1")+". q"+wide(25, "1")+". ?", api.ErrMany, 52)
	wantQuery(t, "p"+wide(24, "X")+"?", atom("p", slices.Repeat([]api.Term{v("X")}, 24)...))
	wantQuery(t, "p("+vars(0, 24)+")?", func() api.Atom {
		a := atom("p")
		for i := range 24 {
			a.Args = append(a.Args, v("X"+strconv.Itoa(i)))
		}
		return a
	}())
	badQuery(t, " p"+wide(25, "_")+"?", api.ErrMany, 1)
	badQuery(t, "\np"+wide(25, "_")+"? p", api.ErrSyntax, 55)
	badQuery(t, "p"+wide(25, "_"), api.ErrSyntax, 52)
	badQuery(t, "p"+wide(25, "_")+".", api.ErrSyntax, 52)
}

// P5.1: what lex.Tokens says comes ahead of all else, wherever it stands.
func TestTokens(t *testing.T) {
	long := strings.Repeat("a", 121)
	for _, c := range []struct {
		token string
		code  api.Errno
	}{{"!", api.ErrByte}, {"_x", api.ErrByte}, {"\x00", api.ErrByte}, {":", api.ErrByte}, {"007", api.ErrNum}, {"9223372036854775809", api.ErrNum}, {`"`, api.ErrQuote}, {`"\q"`, api.ErrQuote},
		{`"` + strings.Repeat("a", 201) + `"`, api.ErrQuote}, {long, api.ErrLong}, {"X" + long, api.ErrLong}} {
		for _, ahead := range []string{"", "p. ", ") ", "p(X, ", "p(_, ", "p :- X = --------X. ", "p" + wide(25, "1") + ". ", "p? p? ", "= = ", "X "} {
			badAll(t, ahead+c.token, c.code, len(ahead))
			badAll(t, ahead+c.token+" ! . X (", c.code, len(ahead))
		}
	}
	for _, ahead := range []string{"p.", "p?", ")", "p(X)", "p(", "!", ""} {
		badAll(t, ahead+strings.Repeat(" ", 65537-len(ahead)), api.ErrLong, 65536)
	}
}

// A source of as many bytes as may be, and of the most that can be nested in it.
func TestLongSources(t *testing.T) {
	const most = 65536
	pad := func(source, fill string) string {
		return source + strings.Repeat(fill, most)[:most-len(source)]
	}
	wantProgram(t, pad("p.", " "), rule("p", nil))
	wantRule(t, pad("p.#", "!"), rule("p", nil))
	wantFacts(t, pad("p.\n", "\t"), fact("p"))
	wantQuery(t, pad("p?#", "#"), atom("p"))
	wantFacts(t, pad("", "p."), slices.Repeat([]api.Fact{fact("p")}, most/2)...)
	wantProgram(t, pad("", "p."), slices.Repeat([]api.Rule{rule("p", nil)}, most/2)...)
	badAll(t, pad("", "("), api.ErrSyntax, 0)
	badProgram(t, pad("p:-X", "*X"), api.ErrSyntax, most)
	badRule(t, pad("p.  p:-", "("), api.ErrSyntax, 4)
	badProgram(t, pad("p.p:-", "("), api.ErrSyntax, most)
	badProgram(t, pad("p:-", "-"), api.ErrSyntax, most)
	badProgram(t, pad("p:- X =", "len("), api.ErrSyntax, most)
	badRule(t, pad("p:-", "-("), api.ErrSyntax, most)
	badRule(t, "p:-X="+strings.Repeat("-", most-7)+"X.", api.ErrDeep, 0)
	badRule(t, "p:-X=1"+strings.Repeat("+1", 32764)+" .", api.ErrDeep, 0)
	badRule(t, "p:-q"+strings.Repeat(",q", 32765)+" .", api.ErrMany, 0)
	badFacts(t, "p(1"+strings.Repeat(",1", 32765)+").", api.ErrMany, 0)
	badQuery(t, "p(_"+strings.Repeat(",_", 32765)+")?", api.ErrMany, 0)
	wantRule(t, "p:-X="+strings.Repeat("(", 32764)+"1"+strings.Repeat(")", 32764)+".", rule("p", nil, cmp(ex(v("X")), api.RelEq, ex(n(1)))))
}
