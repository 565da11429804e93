package print_test

import (
	"math"
	"slices"
	"strings"
	"testing"

	"pedigree/api"
	"pedigree/parse"
	"pedigree/print"
	"pedigree/term"
)

// deep is 1 + (1 + .. (1 + 1)) of that depth.
func deep(depth int) api.Expr {
	e := ex(n(1))
	for range depth - 1 {
		e = op(api.OpAdd, ex(n(1)), e)
	}
	return e
}

func deepText(depth int) string {
	return strings.Repeat("1 + (", depth-2) + "1 + 1" + strings.Repeat(")", depth-2)
}

// nested is e with that many of one operation of one kid around it.
func nested(o api.Op, times int, e api.Expr) api.Expr {
	for range times {
		e = op(o, e)
	}
	return e
}

func badExprs() []api.Expr {
	X := ex(v("X"))
	out := []api.Expr{ex(v("_")), op(api.OpAdd, X, ex(v("_"))), deep(9), nested(api.OpNeg, 8, X), nested(api.OpLen, 100000, X), op(api.OpMul, X, deep(8)), op(api.OpMul, deep(8), X), {Op: 11}, {Op: -1}, {Op: math.MaxInt8, Kids: []api.Expr{X}}, {Op: math.MinInt8},
		{Term: v("X"), Kids: []api.Expr{X}}, {Op: api.OpNeg, Term: v("X"), Kids: []api.Expr{X}}, {Op: api.OpAdd, Term: n(0), Kids: []api.Expr{X, X}}}
	for o := api.OpNeg; o <= api.OpBack; o++ {
		takes := len(firstKids(o))
		for count := range 5 {
			if count != takes {
				out = append(out, op(o, slices.Repeat([]api.Expr{X}, count)...))
			}
		}
		out = append(out, op(o, append(firstKids(o)[1:], api.Expr{})...))
	}
	for _, bad := range badTerms() {
		out = append(out, ex(bad), op(api.OpBack, ex(bad)), op(api.OpSub, X, ex(bad)), op(api.OpSub, ex(bad), X))
	}
	return out
}

// R1: an expression that is its own kid has no end, and is too deep. (It cannot be told in a remark.)
func TestOwnKid(t *testing.T) {
	for o := api.OpNeg; o <= api.OpBack; o++ {
		e := op(o, firstKids(o)...)
		for i := range e.Kids {
			e.Kids[i] = e
		}
		l := cmp(ex(v("X")), api.RelEq, e)
		text, err := print.Expr(e)
		line, bad := print.Literal(l)
		whole, none := print.Program(program(even(), rule("p", nil, l)))
		if text != "" || err != api.ErrTerm || line != "" || bad != api.ErrTerm || whole != "" || none != api.ErrTerm {
			t.Errorf("operation %d: %d, %d, %d", o, err, bad, none)
		}
	}
}

// firstKids are as many kids as an operation takes.
func firstKids(o api.Op) []api.Expr {
	if takesTwo(o) {
		return []api.Expr{ex(v("X")), ex(v("Y"))}
	}
	return []api.Expr{ex(v("X"))}
}

// P6.2.
func TestExprs(t *testing.T) {
	c := exprs()
	X, Y, Z, S, T := ex(v("X")), ex(v("Y")), ex(v("Z")), ex(v("S")), ex(v("T"))
	for name, e := range map[string]api.Expr{
		"X": X, "-5": ex(n(-5)), "5": ex(n(5)), `"a b"`: ex(s("a b")), "a": ex(s("a")), "-9223372036854775808": ex(n(math.MinInt64)),
		"X - (Y - 1)":              op(api.OpSub, X, op(api.OpSub, Y, ex(n(1)))),
		"X - Y - 1":                op(api.OpSub, op(api.OpSub, X, Y), ex(n(1))),
		"(X + 1) * (Y * Z)":        op(api.OpMul, op(api.OpAdd, X, ex(n(1))), op(api.OpMul, Y, Z)),
		"X + Y * Z":                op(api.OpAdd, X, op(api.OpMul, Y, Z)),
		"-X":                       op(api.OpNeg, X),
		"-(5)":                     op(api.OpNeg, ex(n(5))),
		"-(0)":                     op(api.OpNeg, ex(n(0))),
		"--5":                      op(api.OpNeg, ex(n(-5))),
		"--X":                      op(api.OpNeg, op(api.OpNeg, X)),
		"--(5)":                    op(api.OpNeg, op(api.OpNeg, ex(n(5)))),
		"---5":                     op(api.OpNeg, op(api.OpNeg, ex(n(-5)))),
		"--9223372036854775808":    op(api.OpNeg, ex(n(math.MinInt64))),
		"-(9223372036854775807)":   op(api.OpNeg, ex(n(math.MaxInt64))),
		"-(X + Y)":                 op(api.OpNeg, op(api.OpAdd, X, Y)),
		"-(X * Y)":                 op(api.OpNeg, op(api.OpMul, X, Y)),
		"-a":                       op(api.OpNeg, ex(s("a"))),
		`-"5"`:                     op(api.OpNeg, ex(s("5"))),
		`-""`:                      op(api.OpNeg, ex(s(""))),
		"X - -5":                   op(api.OpSub, X, ex(n(-5))),
		"-5 - X":                   op(api.OpSub, ex(n(-5)), X),
		"X - -Y":                   op(api.OpSub, X, op(api.OpNeg, Y)),
		"-X * -(2)":                op(api.OpMul, op(api.OpNeg, X), op(api.OpNeg, ex(n(2)))),
		`"a b" & back(S & T)`:      op(api.OpCat, ex(s("a b")), op(api.OpBack, op(api.OpCat, S, T))),
		"len(S) / chars(T) % 5":    op(api.OpMod, op(api.OpDiv, op(api.OpLen, S), op(api.OpChars, T)), ex(n(5))),
		"-len(-(5))":               op(api.OpNeg, op(api.OpLen, op(api.OpNeg, ex(n(5))))),
		"back(chars(len(5)))":      op(api.OpBack, op(api.OpChars, op(api.OpLen, ex(n(5))))),
		`"(" & (")" & "-(")`:       op(api.OpCat, ex(s("(")), op(api.OpCat, ex(s(")")), ex(s("-(")))),
		`"len" & len("not")`:       op(api.OpCat, ex(s("len")), op(api.OpLen, ex(s("not")))),
		"-------X":                 nested(api.OpNeg, 7, X),
		"-------(5)":               nested(api.OpNeg, 7, ex(n(5))),
		"--------5":                nested(api.OpNeg, 7, ex(n(-5))),
		deepText(8):                deep(8),
		"(X - Y) % (-(X / Y) & Z)": op(api.OpMod, op(api.OpSub, X, Y), op(api.OpCat, op(api.OpNeg, op(api.OpDiv, X, Y)), Z)),
	} {
		c.want(t, e, name)
	}
	for _, bad := range badExprs() {
		c.refuse(t, bad, api.ErrTerm)
	}
}

// signOf are the signs and words as the chapter has them.
func signOf(o api.Op) string {
	switch o {
	case api.OpNeg, api.OpSub:
		return "-"
	case api.OpAdd:
		return "+"
	case api.OpMul:
		return "*"
	case api.OpDiv:
		return "/"
	case api.OpMod:
		return "%"
	case api.OpCat:
		return "&"
	case api.OpLen:
		return "len"
	case api.OpChars:
		return "chars"
	}
	return "back"
}

func takesTwo(o api.Op) bool { return o >= api.OpAdd && o <= api.OpCat }

// bracketed: the operations that stand between brackets, as the first and as the second kid of each one.
func bracketed(o api.Op) (first, second []api.Op) {
	sums := []api.Op{api.OpAdd, api.OpSub, api.OpCat}
	both := append(sums, api.OpMul, api.OpDiv, api.OpMod)
	switch o {
	case api.OpAdd, api.OpSub, api.OpCat:
		return nil, sums
	case api.OpMul, api.OpDiv, api.OpMod:
		return sums, both
	case api.OpNeg:
		return both, nil
	}
	return nil, nil
}

// simple is an operation with kids that need no brackets, and its text.
func simple(o api.Op) (api.Expr, string) {
	if takesTwo(o) {
		return op(o, ex(v("X")), ex(s("a"))), "X " + signOf(o) + " a"
	}
	if o == api.OpNeg {
		return op(o, ex(v("X"))), "-X"
	}
	return op(o, ex(v("X"))), signOf(o) + "(X)"
}

func within(text string, brackets bool) string {
	if brackets {
		return "(" + text + ")"
	}
	return text
}

// P6.2, P6.5, P6.7: of every two operations, one the kid of the other.
func TestEveryTwoOperations(t *testing.T) {
	for o := api.OpNeg; o <= api.OpBack; o++ {
		first, second := bracketed(o)
		for k := api.OpNeg; k <= api.OpBack; k++ {
			kid, text := simple(k)
			switch {
			case takesTwo(o):
				wantBoth(t, op(o, kid, ex(v("Y"))), within(text, slices.Contains(first, k))+" "+signOf(o)+" Y")
				wantBoth(t, op(o, ex(v("Y")), kid), "Y "+signOf(o)+" "+within(text, slices.Contains(second, k)))
				wantBoth(t, op(o, kid, kid), within(text, slices.Contains(first, k))+" "+signOf(o)+" "+within(text, slices.Contains(second, k)))
			case o == api.OpNeg:
				wantBoth(t, op(o, kid), "-"+within(text, slices.Contains(first, k)))
			default:
				wantBoth(t, op(o, kid), signOf(o)+"("+text+")")
			}
		}
	}
}

// P6.2, P6.5, P6.7: numbers behind a minus, and as the kids of each operation.
func TestNumbers(t *testing.T) {
	for _, k := range []int64{0, 1, 5, math.MaxInt64, -1, -5, math.MinInt64} {
		number := ex(n(k))
		shown, _ := terms().ask(n(k))
		minus := "-" + within(shown, k >= 0)
		wantBoth(t, op(api.OpNeg, number), minus)
		wantBoth(t, nested(api.OpNeg, 5, number), "----"+minus)
		for o := api.OpAdd; o <= api.OpBack; o++ {
			if !takesTwo(o) {
				wantBoth(t, op(o, number), signOf(o)+"("+shown+")")
				wantBoth(t, op(o, op(api.OpNeg, number)), signOf(o)+"("+minus+")")
				wantBoth(t, op(api.OpNeg, op(o, number)), "-"+signOf(o)+"("+shown+")")
				continue
			}
			sign := " " + signOf(o) + " "
			wantBoth(t, op(o, number, number), shown+sign+shown)
			wantBoth(t, op(o, op(api.OpNeg, number), op(api.OpNeg, number)), minus+sign+minus)
			wantBoth(t, op(api.OpNeg, op(o, number, number)), "-("+shown+sign+shown+")")
			wantBoth(t, op(o, ex(v("X")), number), "X"+sign+shown)
			wantBoth(t, op(o, number, ex(s("a"))), shown+sign+"a")
		}
	}
}

func wantBoth(t *testing.T, e api.Expr, text string) {
	t.Helper()
	exprs().want(t, e, text)
	wantSide(t, e)
}

// sides reads a text as the left and as the right side of a comparison; ok says whether each is without a fault.
func sides(text string) (l [2]api.Expr, ok [2]bool) {
	r, fault := parse.Rule("p :- " + text + " = 0.")
	if fault.Code == api.OK {
		l[0], ok[0] = r.Body[0].Left, true
	}
	r, fault = parse.Rule("p :- 0 = " + text + ".")
	if fault.Code == api.OK {
		l[1], ok[1] = r.Body[0].Right, true
	}
	return l, ok
}

func sameExpr(a, b api.Expr) bool {
	return a.Op == b.Op && a.Term == b.Term && slices.EqualFunc(a.Kids, b.Kids, sameExpr)
}

// wantSide asks whether an expression's text is the slow writer's (P6.2), is read as it (P6.5), has no idle bracket (P6.7), and has the bytes that it may have (P6.8).
func wantSide(t *testing.T, e api.Expr) {
	t.Helper()
	text, err := exprs().ask(e)
	if one := slow(e, 1); text != one {
		t.Fatalf("%s is written %s; want %s", brief("%#v", e), brief("%q", text), brief("%q", one))
	}
	read, ok := sides(text)
	if err != api.OK || !ok[0] || !ok[1] || !sameExpr(read[0], e) || !sameExpr(read[1], e) {
		t.Fatalf("%s is written %s, %d, and read as %s", brief("%#v", e), brief("%q", text), err, brief("%#v", read))
	}
	if !isPlain(text) {
		t.Fatalf("%s is written %s", brief("%#v", e), brief("%q", text))
	}
	for _, less := range withoutOne(text) {
		read, ok := sides(less)
		if ok[0] && sameExpr(read[0], e) || ok[1] && sameExpr(read[1], e) {
			t.Fatalf("%s has an idle bracket: %s says the same", brief("%q", text), brief("%q", less))
		}
	}
}

// isPlain: has the text bytes from 32 to 126 alone?
func isPlain(text string) bool {
	return strings.IndexFunc(text, func(r rune) bool { return r < 32 || r > 126 }) < 0
}

// withoutOne are the texts that are left when a bracket, ahead of which no word stands, is taken away with the one that closes it.
func withoutOne(text string) []string {
	var out []string
	var open []int
	for i := 0; i < len(text); i++ {
		switch text[i] {
		case '"':
			for i++; text[i] != '"'; i++ {
				if text[i] == '\\' {
					i++
				}
			}
		case '(':
			open = append(open, i)
		case ')':
			from := open[len(open)-1]
			open = open[:len(open)-1]
			ahead := text[:from]
			if !strings.HasSuffix(ahead, "len") && !strings.HasSuffix(ahead, "chars") && !strings.HasSuffix(ahead, "back") {
				out = append(out, ahead+text[from+1:i]+text[i+1:])
			}
		}
	}
	return out
}

// slow writes an expression as the grammar of chapter 5 has it: room says which of its lines must read it (1: expr, 2: part, 3: unit, 4: plain).
func slow(e api.Expr, room int) string {
	kid := func(i, room int) string { return slow(e.Kids[i], room) }
	line, text := 0, ""
	switch e.Op {
	case api.OpTerm:
		line = 4
		text, _ = terms().ask(e.Term)
	case api.OpAdd, api.OpSub, api.OpCat:
		line, text = 1, kid(0, 1)+" "+signOf(e.Op)+" "+kid(1, 2)
	case api.OpMul, api.OpDiv, api.OpMod:
		line, text = 2, kid(0, 2)+" "+signOf(e.Op)+" "+kid(1, 3)
	case api.OpNeg:
		text = kid(0, 3)
		line, text = 3, "-"+within(text, text[0] >= '0' && text[0] <= '9')
	default:
		line, text = 4, signOf(e.Op)+"("+kid(0, 1)+")"
	}
	return within(text, line < room)
}

// grown are all expressions that are no deeper than depth and have no other terms.
func grown(depth int, leaves ...api.Term) []api.Expr {
	var first []api.Expr
	for _, t := range leaves {
		first = append(first, ex(t))
	}
	out := first
	for range depth - 1 {
		kids := out
		out = slices.Clone(first)
		for o := api.OpNeg; o <= api.OpBack; o++ {
			for _, a := range kids {
				if !takesTwo(o) {
					out = append(out, op(o, a))
					continue
				}
				for _, b := range kids {
					out = append(out, op(o, a, b))
				}
			}
		}
	}
	return out
}

// P6.2, P6.5, P6.6, P6.7, P6.8: all small expressions.
func TestAllSmallExprs(t *testing.T) {
	l := grown(3, v("X"), n(5), n(-5))
	l = append(l, grown(2, v("X"), v("Y"), n(0), n(7), n(-7), n(math.MinInt64), s("a"), s(""), s("-"), s("("), s("len"))...)
	seen := map[string]api.Expr{}
	for _, e := range l {
		wantSide(t, e)
		text, _ := exprs().ask(e)
		if other, again := seen[text]; again && !sameExpr(e, other) {
			t.Fatalf("%#v and %#v are both written %q", e, other, text)
		}
		seen[text] = e
	}
}

// P6.2, P6.5, P6.7: any expressions, up to the greatest depth.
func TestAnyExprs(t *testing.T) {
	d := dice(1)
	depths := map[int]int{}
	for range 3000 {
		e := anyExpr(&d, 1+d.below(8))
		depths[term.Depth(e)]++
		wantSide(t, e)
	}
	for depth := range 8 {
		if depths[depth+1] < 10 {
			t.Errorf("only %d expressions of depth %d", depths[depth+1], depth+1)
		}
	}
}

// full is an expression of that depth with all the kids that it may have.
func full(depth int, o api.Op, leaf api.Term) api.Expr {
	if depth == 1 {
		return ex(leaf)
	}
	return op(o, full(depth-1, o, leaf), full(depth-1, o, leaf))
}

// P6.2, P6.5, P6.7: as many kids as there may be.
func TestFullExprs(t *testing.T) {
	for _, o := range []api.Op{api.OpAdd, api.OpMul} {
		e := full(8, o, n(-1))
		wantSide(t, e)
		exprs().refuse(t, full(9, o, n(-1)), api.ErrTerm)
		exprs().refuse(t, op(api.OpNeg, e), api.ErrTerm)
	}
}
