package print_test

import (
	"fmt"
	"math"
	"reflect"
	"slices"
	"strconv"
	"strings"
	"testing"

	"pedigree/api"
	"pedigree/print"
	"pedigree/value"
)

func num(n int64) api.Value { return api.Value{Kind: api.KNum, Num: n} }

func text(s string) api.Value { return api.Value{Kind: api.KText, Text: s} }

func v(name string) api.Term { return api.Term{Var: name} }

func n(k int64) api.Term { return api.Term{Val: num(k)} }

func s(t string) api.Term { return api.Term{Val: text(t)} }

func atom(pred string, l ...api.Term) api.Atom { return api.Atom{Pred: pred, Args: l} }

func pos(pred string, l ...api.Term) api.Literal {
	return api.Literal{Kind: api.LPos, Atom: atom(pred, l...)}
}

func not(pred string, l ...api.Term) api.Literal {
	return api.Literal{Kind: api.LNot, Atom: atom(pred, l...)}
}

func cmp(left api.Expr, rel api.Rel, right api.Expr) api.Literal {
	return api.Literal{Kind: api.LCmp, Rel: rel, Left: left, Right: right}
}

func ex(t api.Term) api.Expr { return api.Expr{Term: t} }

func op(o api.Op, kids ...api.Expr) api.Expr { return api.Expr{Op: o, Kids: kids} }

func head(l ...api.Term) []api.Arg {
	var out []api.Arg
	for _, t := range l {
		out = append(out, api.Arg{Term: t})
	}
	return out
}

func rule(pred string, args []api.Arg, body ...api.Literal) api.Rule {
	return api.Rule{Pred: pred, Head: args, Body: body}
}

func fact(pred string, l ...api.Value) api.Fact { return api.Fact{Pred: pred, Args: l} }

// told writes a thing out; an empty list and nil are the same.
func told(x reflect.Value) string {
	var out strings.Builder
	tell(&out, x)
	return out.String()
}

func tell(out *strings.Builder, x reflect.Value) {
	switch x.Kind() {
	case reflect.Struct:
		for i := range x.NumField() {
			tell(out, x.Field(i))
			out.WriteString(";")
		}
	case reflect.Slice:
		out.WriteString("[")
		for i := range x.Len() {
			tell(out, x.Index(i))
			out.WriteString(",")
		}
		out.WriteString("]")
	case reflect.String:
		out.WriteString(strconv.Quote(x.String()))
	default:
		out.WriteString(strconv.FormatInt(x.Int(), 10))
	}
}

func same[T any](a, b T) bool { return told(reflect.ValueOf(a)) == told(reflect.ValueOf(b)) }

// brief cuts off what is too long for a remark.
func brief(form string, x any) string {
	const most = 400
	out := fmt.Sprintf(form, x)
	if len(out) > most {
		return out[:most] + " .."
	}
	return out
}

// call is one of the package's functions, with its name.
type call[T any] struct {
	name string
	ask  func(T) (string, api.Errno)
}

// The package's functions, by the kinds of what they take.
func terms() call[api.Term]       { return call[api.Term]{"Term", print.Term} }
func exprs() call[api.Expr]       { return call[api.Expr]{"Expr", print.Expr} }
func atoms() call[api.Atom]       { return call[api.Atom]{"Atom", print.Atom} }
func literals() call[api.Literal] { return call[api.Literal]{"Literal", print.Literal} }
func oneRule() call[api.Rule]     { return call[api.Rule]{"Rule", print.Rule} }
func programs() call[api.Program] { return call[api.Program]{"Program", print.Program} }
func facts() call[[]api.Fact]     { return call[[]api.Fact]{"Facts", print.Facts} }
func queries() call[api.Atom]     { return call[api.Atom]{"Query", print.Query} }

// want holds one call against the text that it should answer.
func (c call[T]) want(t *testing.T, thing T, text string) {
	t.Helper()
	if got, err := c.ask(thing); got != text || err != api.OK {
		t.Errorf("%s(%s) = %s, %d; want %s", c.name, brief("%#v", thing), brief("%q", got), err, brief("%q", text))
	}
}

// refuse asks for an error, and for nothing beside it (R2).
func (c call[T]) refuse(t *testing.T, thing T, code api.Errno) {
	t.Helper()
	if got, err := c.ask(thing); got != "" || err != code {
		t.Errorf("%s(%s) = %s, %d; want nothing and %d", c.name, brief("%#v", thing), brief("%q", got), err, code)
	}
}

// longest is a text of n bytes that begins with first and has letters, digits and _ behind it.
func longest(first string, n int) string {
	return (first + strings.Repeat("aZ09_", n))[:n]
}

func keywords() []string {
	return []string{"not", "count", "sum", "min", "max", "len", "chars", "back"}
}

// all256 are texts in which every byte stands.
func all256() []string {
	var l []byte
	for c := range 256 {
		l = append(l, byte(c))
	}
	return []string{string(l[:128]), string(l[128:]), string(l[60 : 260-60]), string(l[56:])}
}

func badTerms() []api.Term {
	out := []api.Term{{}, v("x"), v("not"), v("_X"), v("__"), v("0"), v("X y"), v("X-"), v("X\xc3\xa4"), v("X\x00"), v("\"X\""), v(longest("X", 121)), v(strings.Repeat("X", 100000)),
		{Val: api.Value{Num: 1}}, {Val: api.Value{Text: "a"}}, {Val: api.Value{Kind: api.KNum, Num: 1, Text: "a"}}, {Val: api.Value{Kind: api.KText, Num: 1, Text: "a"}},
		s(strings.Repeat("x", 201)), s(strings.Repeat("\n", 201)), {Val: api.Value{Kind: -1}}, {Val: api.Value{Kind: 3}}, {Val: api.Value{Kind: math.MaxInt8, Num: 1}}, {Val: api.Value{Kind: math.MinInt8}}}
	for _, name := range []string{"X", "_", "x"} {
		for _, w := range []api.Value{num(5), num(0), text(""), text("a"), {Num: 1}, {Text: "a"}, {Kind: 3}} {
			out = append(out, api.Term{Var: name, Val: w})
		}
	}
	return out
}

// badNames are no names, and so no predicates.
func badNames() []string {
	return append(keywords(), "", "_", "P", "9", "p ", " p", "p-q", "p(", "p.", "p\n", "p\xc3\xa4", "\"p\"", longest("p", 121), strings.Repeat("p", 201))
}

// P6.1.
func TestTerms(t *testing.T) {
	c := terms()
	for name, thing := range map[string]api.Term{"Ab1": v("Ab1"), "_": v("_"), "7": n(7), "-7": n(-7), "0": n(0), "-9223372036854775808": n(math.MinInt64), "9223372036854775807": n(math.MaxInt64),
		"bo": s("bo"), `"Bo"`: s("Bo"), `"not"`: s("not"), `""`: s(""), `"a\n"`: s("a\n"), `"_"`: s("_"), `"7"`: s("7"), `"-7"`: s("-7"), `"a b"`: s("a b"), `"\"\\"`: s(`"\`),
		"q_x": s("q_x"), "nots": s("nots"), `"\xc3\xa9"`: s("\u00e9"), `"#"`: s("#"), `"\x7f"`: s("\x7f"), `"~ "`: s("~ "), `"\x1f"`: s("\x1f")} {
		c.want(t, thing, name)
	}
	for _, word := range keywords() {
		c.want(t, s(word), `"`+word+`"`)
		c.want(t, s(word+"_"), word+"_")
	}
	c.want(t, v(longest("X", 120)), longest("X", 120))
	c.want(t, s(longest("p", 120)), longest("p", 120))
	c.want(t, s(longest("p", 121)), `"`+longest("p", 121)+`"`)
	c.want(t, s(strings.Repeat("\xff", 200)), `"`+strings.Repeat(`\xff`, 200)+`"`)
	c.want(t, s("\x00\t\n\r\x7f\x80"), `"\x00\x09\n\x0d\x7f\x80"`)
	for _, w := range append(all256(), longest("P", 200), longest("p", 200)) {
		shown, _ := value.Show(text(w))
		c.want(t, s(w), shown)
	}
	for code := range 256 {
		shown, _ := value.Show(text(string([]byte{byte(code)})))
		c.want(t, s(string([]byte{byte(code)})), shown)
	}
	for _, bad := range badTerms() {
		c.refuse(t, bad, api.ErrTerm)
	}
}

// wide are n columns of one term.
func wide(n int, t api.Term) []api.Term { return slices.Repeat([]api.Term{t}, n) }

// P6.3 and P6.4: atoms, and the same as queries.
func TestAtomsAndQueries(t *testing.T) {
	for name, a := range map[string]api.Atom{"p": atom("p"), "p(X, _, a, X)": atom("p", v("X"), v("_"), s("a"), v("X")), "p(X, 3)": atom("p", v("X"), n(3)), "q_p(-3)": atom("q_p", n(-3)),
		`p("")`: atom("p", s("")), `p("p(X)", "a, b")`: atom("p", s("p(X)"), s("a, b")), "p(" + strings.Repeat("_, ", 23) + "_)": atom("p", wide(24, v("_"))...),
		longest("p", 120) + "(" + longest("X", 120) + ")": atom(longest("p", 120), v(longest("X", 120)))} {
		atoms().want(t, a, name)
		queries().want(t, a, name+"?")
		literals().want(t, api.Literal{Kind: api.LPos, Atom: a}, name)
		literals().want(t, api.Literal{Kind: api.LNot, Atom: a}, "not "+name)
	}
	atoms().want(t, api.Atom{Pred: "p", Args: []api.Term{}}, "p")
	for _, bad := range badAtoms() {
		atoms().refuse(t, bad, api.ErrTerm)
		queries().refuse(t, bad, api.ErrTerm)
	}
}

func badAtoms() []api.Atom {
	out := []api.Atom{atom("p", wide(25, v("_"))...), atom("p", wide(25, n(1))...), atom("p", wide(100000, n(1))...), {}}
	for _, name := range badNames() {
		out = append(out, atom(name), atom(name, v("X")))
	}
	for _, bad := range badTerms() {
		out = append(out, atom("p", bad), atom("p", v("X"), n(1), bad), atom("p", append(wide(23, v("_")), bad)...))
	}
	return out
}

// P6.3.
func TestLiterals(t *testing.T) {
	c := literals()
	X := ex(v("X"))
	c.want(t, not("p"), "not p")
	c.want(t, pos("not_"), "not_")
	c.want(t, cmp(op(api.OpLen, ex(v("S"))), api.RelLe, ex(n(3))), "len(S) <= 3")
	c.want(t, cmp(op(api.OpAdd, X, X), api.RelGt, op(api.OpSub, X, op(api.OpSub, X, X))), "X + X > X - (X - X)")
	c.want(t, cmp(ex(s("p")), api.RelEq, ex(s("="))), `p = "="`)
	for rel, sign := range map[api.Rel]string{api.RelEq: "=", api.RelNe: "!=", api.RelLt: "<", api.RelLe: "<=", api.RelGt: ">", api.RelGe: ">="} {
		c.want(t, cmp(ex(n(1)), rel, ex(n(-2))), "1 "+sign+" -2")
		c.want(t, cmp(ex(s("a")), rel, op(api.OpNeg, X)), "a "+sign+" -X")
	}
	c.want(t, cmp(deep(8), api.RelEq, deep(8)), deepText(8)+" = "+deepText(8))
	for _, bad := range badLiterals() {
		c.refuse(t, bad, api.ErrTerm)
	}
}

func badLiterals() []api.Literal {
	X, p := ex(v("X")), atom("p")
	out := []api.Literal{{}, {Atom: p}, {Rel: api.RelEq, Left: X, Right: X}, {Kind: 4, Atom: p}, {Kind: -1, Atom: p}, {Kind: math.MaxInt8}, {Kind: math.MinInt8}, {Kind: api.LPos}, {Kind: api.LNot},
		{Kind: api.LPos, Atom: p, Rel: api.RelEq}, {Kind: api.LNot, Atom: p, Left: X}, {Kind: api.LPos, Atom: p, Right: X}, {Kind: api.LNot, Atom: p, Right: api.Expr{Op: api.OpNeg}},
		{Kind: api.LCmp, Atom: p, Rel: api.RelEq, Left: X, Right: X}, {Kind: api.LCmp, Atom: api.Atom{Args: wide(1, n(1))}, Rel: api.RelEq, Left: X, Right: X}}
	for _, rel := range []api.Rel{api.RelNone, -1, 7, math.MaxInt8, math.MinInt8} {
		out = append(out, cmp(X, rel, X))
	}
	for _, bad := range badAtoms() {
		out = append(out, api.Literal{Kind: api.LPos, Atom: bad}, api.Literal{Kind: api.LNot, Atom: bad})
	}
	for _, bad := range badExprs() {
		out = append(out, cmp(X, api.RelEq, bad), cmp(bad, api.RelEq, X))
	}
	return out
}

// The rules of the chapter's examples.
func counted() api.Rule {
	return rule("n", []api.Arg{{Term: v("X")}, {Agg: api.AggCount}}, pos("e", v("X"), v("Y")), cmp(ex(v("Y")), api.RelNe, ex(v("X"))))
}

func even() api.Rule {
	return rule("r", nil, pos("p", v("X")), cmp(op(api.OpMod, ex(v("X")), ex(n(2))), api.RelEq, ex(n(0))))
}

const (
	countedText = "n(X, count()) :- e(X, Y), Y != X."
	evenText    = "r :- p(X), X % 2 = 0."
)

// many are n variables.
func many(n int) []api.Term {
	var out []api.Term
	for i := range n {
		out = append(out, v("X"+strconv.Itoa(i)))
	}
	return out
}

// P6.3.
func TestRules(t *testing.T) {
	c := oneRule()
	c.want(t, counted(), countedText)
	c.want(t, even(), evenText)
	c.want(t, rule("p", nil), "p.")
	c.want(t, api.Rule{Pred: "p", Head: []api.Arg{}, Body: []api.Literal{}}, "p.")
	c.want(t, rule("p", head(n(-1), s("a b"), v("X"))), `p(-1, "a b", X).`)
	c.want(t, rule("p", nil, not("q")), "p :- not q.")
	c.want(t, rule("p", []api.Arg{{Agg: api.AggCount}}), "p(count()).")
	c.want(t, rule("m", []api.Arg{{Agg: api.AggSum, Term: v("X")}, {Agg: api.AggMin, Term: v("Xy_1")}, {Agg: api.AggMax, Term: v("Z")}, {Agg: api.AggCount}, {Term: s("sum")}}, pos("p", v("X"), v("_"))),
		`m(sum(X), min(Xy_1), max(Z), count(), "sum") :- p(X, _).`)
	c.want(t, rule("p", head(wide(24, n(1))...), slices.Repeat([]api.Literal{not("q", wide(24, v("_"))...)}, 16)...),
		"p("+strings.Repeat("1, ", 23)+"1) :- "+strings.Repeat("not q("+strings.Repeat("_, ", 23)+"_), ", 15)+"not q("+strings.Repeat("_, ", 23)+"_).")
	var names []string
	for i := range 24 {
		names = append(names, "X"+strconv.Itoa(i))
	}
	c.want(t, rule("p", head(many(24)...), pos("q", many(24)...)), "p("+strings.Join(names, ", ")+") :- q("+strings.Join(names, ", ")+").")
	for _, bad := range badRules() {
		c.refuse(t, bad, api.ErrTerm)
	}
}

func badRules() []api.Rule {
	out := []api.Rule{{}, rule("p", head(v("_"))), rule("p", head(v("X"), v("_")), pos("q", v("X"))), rule("p", head(wide(25, n(1))...)), rule("p", nil, slices.Repeat([]api.Literal{pos("q")}, 17)...),
		rule("p", nil, slices.Repeat([]api.Literal{pos("q")}, 100000)...), rule("p", head(many(24)...), pos("q", v("X24"))), rule("p", head(v("X24")), pos("q", many(24)...)),
		rule("p", nil, pos("q", many(24)...), cmp(ex(v("X0")), api.RelEq, op(api.OpNeg, ex(v("X24"))))), rule("p", nil, pos("q", wide(25, v("_"))...))}
	for _, a := range []api.Arg{{Agg: api.AggCount, Term: v("X")}, {Agg: api.AggCount, Term: n(0)}, {Agg: api.AggSum}, {Agg: api.AggSum, Term: n(5)}, {Agg: api.AggMin, Term: v("_")}, {Agg: api.AggMax, Term: s("a")},
		{Agg: api.AggMax, Term: v("x")}, {Agg: 5, Term: v("X")}, {Agg: -1, Term: v("X")}, {Agg: math.MaxInt8}, {Agg: math.MinInt8, Term: v("X")}, {}} {
		out = append(out, rule("p", []api.Arg{a}, pos("q", v("X"))), rule("p", []api.Arg{{Term: v("X")}, a}))
	}
	for _, name := range badNames() {
		out = append(out, rule(name, nil), rule(name, head(v("X")), pos("q", v("X"))))
	}
	for _, bad := range badTerms() {
		out = append(out, rule("p", head(bad)))
	}
	for _, bad := range badLiterals() {
		out = append(out, rule("p", nil, bad), rule("p", nil, pos("q", v("X")), bad))
	}
	return out
}

func program(l ...api.Rule) api.Program { return api.Program{Rules: l} }

// P6.4.
func TestPrograms(t *testing.T) {
	c := programs()
	c.want(t, program(), "")
	c.want(t, program([]api.Rule{}...), "")
	c.want(t, program(even()), evenText+"\n")
	c.want(t, program(counted(), even()), countedText+"\n"+evenText+"\n")
	c.want(t, program(even(), counted(), even()), evenText+"\n"+countedText+"\n"+evenText+"\n")
	c.want(t, program(rule("p", head(s("a\nb")))), `p("a\nb").`+"\n")
	c.want(t, program(slices.Repeat([]api.Rule{rule("p", nil)}, 100000)...), strings.Repeat("p.\n", 100000))
	for _, bad := range badRules() {
		c.refuse(t, program(bad), api.ErrTerm)
		c.refuse(t, program(counted(), bad), api.ErrTerm)
		c.refuse(t, program(counted(), bad, even()), api.ErrTerm)
	}
}

// P6.4.
func TestFacts(t *testing.T) {
	c := facts()
	c.want(t, nil, "")
	c.want(t, []api.Fact{}, "")
	c.want(t, []api.Fact{fact("p", num(1)), fact("q"), fact("p", num(1))}, "p(1).\nq.\np(1).\n")
	c.want(t, []api.Fact{fact("z"), fact("b", num(2), num(1)), fact("a"), fact("b", num(1))}, "z.\nb(2, 1).\na.\nb(1).\n")
	c.want(t, []api.Fact{{Pred: "p", Args: []api.Value{}}}, "p.\n")
	c.want(t, []api.Fact{fact("p", text(""), text("bo"), text("Bo"), text("not"), text("a\n"), num(math.MinInt64))}, `p("", bo, "Bo", "not", "a\n", -9223372036854775808).`+"\n")
	c.want(t, []api.Fact{fact("p", slices.Repeat([]api.Value{num(1)}, 24)...)}, "p("+strings.Repeat("1, ", 23)+"1).\n")
	c.want(t, []api.Fact{fact(longest("p", 120), text(strings.Repeat("\x00", 200)))}, longest("p", 120)+`("`+strings.Repeat(`\x00`, 200)+`").`+"\n")
	c.want(t, slices.Repeat([]api.Fact{fact("p", num(1))}, 100000), strings.Repeat("p(1).\n", 100000))
	for _, bad := range badFacts() {
		c.refuse(t, []api.Fact{bad}, api.ErrValue)
		c.refuse(t, []api.Fact{fact("p"), bad}, api.ErrValue)
		c.refuse(t, []api.Fact{bad, fact("q", num(1))}, api.ErrValue)
	}
}

func badFacts() []api.Fact {
	out := []api.Fact{fact("p", slices.Repeat([]api.Value{num(1)}, 25)...), fact("p", make([]api.Value, 1)...), fact("P", num(1)), {}}
	for _, name := range badNames() {
		out = append(out, fact(name), fact(name, num(1)))
	}
	for _, bad := range badTerms() {
		if bad.Var == "" {
			out = append(out, fact("p", bad.Val), fact("p", num(1), bad.Val), fact("p", append(slices.Repeat([]api.Value{num(1)}, 23), bad.Val)...))
		}
	}
	return out
}
