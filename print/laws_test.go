package print_test

import (
	"fmt"
	"math"
	"reflect"
	"slices"
	"strconv"
	"strings"
	"testing"

	"pedigree/api"
	"pedigree/lex"
	"pedigree/parse"
	"pedigree/print"
)

// dice answers numbers below n, the same ones in every run.
type dice uint64

func (d *dice) below(n int) int {
	*d = *d*6364136223846793005 + 1442695040888963407
	return int(uint64(*d)>>33) % n
}

func pick[T any](d *dice, l ...T) T { return l[d.below(len(l))] }

// some are up to most things.
func some[T any](d *dice, most int, one func(*dice) T) []T {
	var out []T
	for range d.below(most + 1) {
		out = append(out, one(d))
	}
	return out
}

func anyValue(d *dice) api.Value {
	if d.below(2) == 0 {
		return num(pick[int64](d, 0, 1, -1, 7, -7, 10, math.MaxInt64, math.MinInt64))
	}
	if d.below(4) == 0 {
		l := some(d, 200, func(d *dice) byte { return byte(d.below(256)) })
		return text(string(l))
	}
	return text(pick(d, "", "a", "b", "bo", "Bo", "X", "_", "0", "-1", "not", "len", "count", "a b", "\n", `"`, `\`, `\n`, "\xff\x00", "# p", ".", "(", "q_1", "\u00e9", longest("p", 120), longest("p", 121), longest("P", 200)))
}

// anyNamed is a term that is no blank.
func anyNamed(d *dice) api.Term {
	if d.below(2) == 0 {
		return v(pick(d, "X", "Y", "Z", "A1_", "Long", longest("V", 120)))
	}
	return api.Term{Val: anyValue(d)}
}

func anyTerm(d *dice) api.Term {
	if d.below(5) == 0 {
		return v("_")
	}
	return anyNamed(d)
}

// anyExpr is one of that depth.
func anyExpr(d *dice, depth int) api.Expr {
	if depth == 1 {
		return ex(anyNamed(d))
	}
	o := api.Op(1 + d.below(10))
	e := op(o, anyExpr(d, depth-1))
	if takesTwo(o) {
		e.Kids = append(e.Kids, anyExpr(d, 1+d.below(depth-1)))
		if d.below(2) == 0 {
			slices.Reverse(e.Kids)
		}
	}
	return e
}

func anyName(d *dice) string {
	return pick(d, "p", "q", "r", "nots", "q_x", "pX9", longest("p", 120))
}

func anyAtom(d *dice) api.Atom { return atom(anyName(d), some(d, pick(d, 3, 3, 3, 24), anyTerm)...) }

func anyLiteral(d *dice) api.Literal {
	switch d.below(4) {
	case 0:
		return api.Literal{Kind: api.LPos, Atom: anyAtom(d)}
	case 1:
		return api.Literal{Kind: api.LNot, Atom: anyAtom(d)}
	}
	return cmp(anyExpr(d, 1+d.below(4)), api.Rel(1+d.below(6)), anyExpr(d, 1+d.below(4)))
}

func anyArg(d *dice) api.Arg {
	switch d.below(6) {
	case 0:
		return api.Arg{Agg: api.AggCount}
	case 1:
		return api.Arg{Agg: pick(d, api.AggSum, api.AggMin, api.AggMax), Term: v(pick(d, "X", "Y", "Sum"))}
	}
	return api.Arg{Term: anyNamed(d)}
}

func anyRule(d *dice) api.Rule {
	return rule(anyName(d), some(d, pick(d, 2, 3, 24), anyArg), some(d, pick(d, 0, 2, 4, 16), anyLiteral)...)
}

func anyProgram(d *dice) api.Program { return program(some(d, 6, anyRule)...) }

func anyFact(d *dice) api.Fact { return fact(anyName(d), some(d, pick(d, 2, 3, 24), anyValue)...) }

func anyFacts(d *dice) []api.Fact { return some(d, 8, anyFact) }

// wantBack writes a thing and reads it again (P6.5). It answers the text.
func wantBack[T any](t *testing.T, c call[T], read func(string) (T, api.Fault), thing T) string {
	t.Helper()
	text, err := c.ask(thing)
	if err != api.OK {
		t.Fatalf("%s(%s) = %d", c.name, brief("%#v", thing), err)
	}
	back, fault := read(text)
	if len(text) > 65536 {
		if (fault != api.Fault{Code: api.ErrLong, At: 65536}) {
			t.Fatalf("%d bytes are read with %v", len(text), fault)
		}
		return text
	}
	if (fault != api.Fault{}) || !same(back, thing) {
		t.Fatalf("%s(%s) = %s, which is read as %s, %v", c.name, brief("%#v", thing), brief("%q", text), brief("%#v", back), fault)
	}
	return text
}

// P6.5, P6.8: any rules, programs, facts and queries.
func TestThereAndBack(t *testing.T) {
	d := dice(2)
	for range 2000 {
		for _, text := range []string{wantBack(t, oneRule(), parse.Rule, anyRule(&d)), wantBack(t, queries(), parse.Query, anyAtom(&d))} {
			if !isPlain(text) {
				t.Fatalf("a text with other bytes: %s", brief("%q", text))
			}
		}
	}
	for range 500 {
		wantBack(t, programs(), parse.Program, anyProgram(&d))
		wantBack(t, facts(), parse.Facts, anyFacts(&d))
	}
}

// P6.5: what the document names.
func TestEdgesThereAndBack(t *testing.T) {
	var l []api.Value
	for _, w := range append(append(all256(), keywords()...), "", "_", "X", "p", longest("p", 120), longest("p", 121), strings.Repeat("\xff", 200), strings.Repeat("a", 200)) {
		l = append(l, text(w))
	}
	for code := range 256 {
		l = append(l, text(string([]byte{byte(code)})))
	}
	for _, k := range []int64{0, 1, -1, math.MaxInt64, math.MinInt64, math.MinInt64 + 1} {
		l = append(l, num(k))
	}
	for _, w := range l {
		wantBack(t, facts(), parse.Facts, []api.Fact{fact("p", w)})
		wantBack(t, queries(), parse.Query, atom("p", api.Term{Val: w}))
		wantBack(t, oneRule(), parse.Rule, rule("p", head(api.Term{Val: w}), not("q", api.Term{Val: w}), cmp(ex(api.Term{Val: w}), api.RelGe, op(api.OpNeg, ex(api.Term{Val: w}))), cmp(op(api.OpSub, ex(api.Term{Val: w}), ex(api.Term{Val: w})), api.RelLt, ex(n(0)))))
	}
	wantBack(t, programs(), parse.Program, program())
	wantBack(t, facts(), parse.Facts, nil)
	wantBack(t, oneRule(), parse.Rule, rule("p", head(many(24)...), slices.Repeat([]api.Literal{pos("q", many(24)...)}, 16)...))
	wantBack(t, oneRule(), parse.Rule, rule("p", nil, cmp(full(8, api.OpSub, n(-5)), api.RelNe, full(8, api.OpDiv, n(5)))))
	wantBack(t, queries(), parse.Query, atom("p", wide(24, s(strings.Repeat("\x01", 200)))...))
}

// ruleOf is a rule whose text has that many bytes: columns are put into its last atom till it has.
func ruleOf(t *testing.T, bytes int) api.Rule {
	t.Helper()
	r := rule("p", nil, append(slices.Repeat([]api.Literal{pos("q", wide(24, s(strings.Repeat("A", 200)))...)}, 13), pos("z", v("_")))...)
	for {
		text, err := print.Rule(r)
		if len(text) == bytes && err == api.OK {
			return r
		}
		letters := bytes - len(text) - len(`, ""`)
		if letters < 0 || err != api.OK {
			t.Fatalf("%d bytes of %d, %d", len(text), bytes, err)
		}
		if letters > 200 {
			letters = min(200, letters-len(`, ""`))
		}
		r.Body[13].Atom.Args = append(r.Body[13].Atom.Args, s(strings.Repeat("A", letters)))
	}
}

// P6.5, P6.6: a text of as many bytes as may be, and of one more.
func TestLongTexts(t *testing.T) {
	for _, bytes := range []int{65535, 65536, 65537, 65538} {
		r := ruleOf(t, bytes)
		if text := wantBack(t, oneRule(), parse.Rule, r); len(text) != bytes {
			t.Errorf("%d bytes, want %d", len(text), bytes)
		}
		short := api.Rule{Pred: strings.Repeat("p", bytes-65531)} // behind 21843 lines of 3 bytes, its own has 2 more than its name
		l := append(slices.Repeat([]api.Rule{rule("p", nil)}, 21843), short)
		if text := wantBack(t, programs(), parse.Program, program(l...)); len(text) != bytes {
			t.Errorf("%d bytes, want %d", len(text), bytes)
		}
		f := append(slices.Repeat([]api.Fact{fact("p")}, 21843), fact(short.Pred))
		if text := wantBack(t, facts(), parse.Facts, f); len(text) != bytes {
			t.Errorf("%d bytes, want %d", len(text), bytes)
		}
	}
	wantBack(t, oneRule(), parse.Rule, rule("p", nil, slices.Repeat([]api.Literal{cmp(full(8, api.OpCat, s(strings.Repeat("\xff", 200))), api.RelEq, full(8, api.OpCat, s(strings.Repeat("\xff", 200))))}, 16)...))
}

// noisy writes things as tokens in other ways than the canonical one.
type noisy struct {
	*dice
	words []string
}

func (w *noisy) put(words ...string) { w.words = append(w.words, words...) }

// source has any blanks and comments ahead of each token and behind the last one.
func (w *noisy) source() string {
	var out strings.Builder
	for _, word := range w.words {
		out.WriteString(pick(w.dice, " ", " ", "\n", "\t\r", " # a. X\n", "#\n") + word)
	}
	return out.String() + pick(w.dice, "", " ", "\n", "#", "# p.")
}

func (w *noisy) value(x api.Value) {
	switch {
	case x.Kind == api.KNum && x.Num < 0:
		w.put("-", strconv.FormatUint(-uint64(x.Num), 10))
	case x.Kind == api.KNum:
		w.put(strconv.FormatInt(x.Num, 10))
	case lex.Name(x.Text) && w.below(2) == 0:
		w.put(x.Text)
	default:
		w.text(x.Text)
	}
}

func (w *noisy) text(s string) {
	out := `"`
	for i := range len(s) {
		if c := s[i]; c < 32 || c > 126 || c == '"' || c == '\\' || w.below(8) == 0 {
			out += fmt.Sprintf(`\x%02x`, c)
		} else {
			out += string(c)
		}
	}
	w.put(out + `"`)
}

func (w *noisy) term(x api.Term) {
	if x.Var != "" {
		w.put(x.Var)
		return
	}
	w.value(x.Val)
}

// expr puts brackets that say nothing around any part.
func (w *noisy) expr(e api.Expr, room int) {
	line := 4
	switch e.Op {
	case api.OpAdd, api.OpSub, api.OpCat:
		line = 1
	case api.OpMul, api.OpDiv, api.OpMod:
		line = 2
	case api.OpNeg:
		line = 3
	}
	if line < room || w.below(3) == 0 {
		w.put("(")
		w.expr(e, 1)
		w.put(")")
		return
	}
	switch {
	case e.Op == api.OpTerm:
		w.term(e.Term)
	case takesTwo(e.Op):
		w.expr(e.Kids[0], line)
		w.put(signOf(e.Op))
		w.expr(e.Kids[1], line+1)
	case e.Op == api.OpNeg && e.Kids[0].Op == api.OpTerm:
		w.put("-", "(")
		w.expr(e.Kids[0], 1)
		w.put(")")
	case e.Op == api.OpNeg:
		w.put("-")
		w.expr(e.Kids[0], 3)
	default:
		w.put(signOf(e.Op), "(")
		w.expr(e.Kids[0], 1)
		w.put(")")
	}
}

func noisyList[T any](w *noisy, pred string, l []T, one func(T)) {
	w.put(pred)
	if len(l) == 0 && w.below(2) == 0 {
		return
	}
	w.put("(")
	for i, x := range l {
		if i > 0 {
			w.put(",")
		}
		one(x)
	}
	w.put(")")
}

func (w *noisy) atom(a api.Atom) { noisyList(w, a.Pred, a.Args, w.term) }

func (w *noisy) query(a api.Atom) {
	w.atom(a)
	w.put("?")
}

func (w *noisy) arg(a api.Arg) {
	switch a.Agg {
	case api.AggNone:
		w.term(a.Term)
	case api.AggCount:
		w.put("count", "(", ")")
	default:
		w.put(map[api.Agg]string{api.AggSum: "sum", api.AggMin: "min", api.AggMax: "max"}[a.Agg], "(", a.Term.Var, ")")
	}
}

func (w *noisy) literal(l api.Literal) {
	switch l.Kind {
	case api.LNot:
		w.put("not")
		w.atom(l.Atom)
	case api.LPos:
		w.atom(l.Atom)
	default:
		w.expr(l.Left, 1)
		w.put([]string{"=", "!=", "<", "<=", ">", ">="}[l.Rel-1])
		w.expr(l.Right, 1)
	}
}

func (w *noisy) rule(r api.Rule) {
	noisyList(w, r.Pred, r.Head, w.arg)
	ahead := ":-"
	for _, l := range r.Body {
		w.put(ahead)
		w.literal(l)
		ahead = ","
	}
	w.put(".")
}

func (w *noisy) program(p api.Program) {
	for _, r := range p.Rules {
		w.rule(r)
	}
}

func (w *noisy) facts(l []api.Fact) {
	for _, f := range l {
		noisyList(w, f.Pred, f.Args, w.value)
		w.put(".")
	}
}

// wantOne asks, of a thing's noisy source, what P6.6 says: it is read, written in the one way, and read as the same once more.
func wantOne[T any](t *testing.T, c call[T], read func(string) (T, api.Fault), source string, thing T) {
	t.Helper()
	got, fault := read(source)
	if fault.Code == api.ErrLong {
		return
	}
	if (fault != api.Fault{}) || !same(got, thing) {
		t.Fatalf("%s is read as %s, %v", brief("%q", source), brief("%#v", got), fault)
	}
	if one := wantBack(t, c, read, thing); one != wantBack(t, c, read, got) {
		t.Fatalf("%s is not written %s", brief("%q", source), brief("%q", one))
	}
}

// P6.6: sources that are written in any way.
func TestOneText(t *testing.T) {
	d := dice(3)
	w := &noisy{dice: &d}
	for range 1500 {
		w.words = nil
		r := anyRule(&d)
		w.rule(r)
		wantOne(t, oneRule(), parse.Rule, w.source(), r)
		w.words = nil
		a := anyAtom(&d)
		w.query(a)
		wantOne(t, queries(), parse.Query, w.source(), a)
	}
	for range 400 {
		w.words = nil
		p := anyProgram(&d)
		w.program(p)
		wantOne(t, programs(), parse.Program, w.source(), p)
		w.words = nil
		l := anyFacts(&d)
		w.facts(l)
		wantOne(t, facts(), parse.Facts, w.source(), l)
	}
}

// P6.6: sources by hand, each with the one text.
func TestOneTextByHand(t *testing.T) {
	for source, one := range map[string]string{
		"p(X) :- X = - - 5 & -(7).":              "p(X) :- X = --5 & -(7).",
		"p:-((a))=b-(c-d)-e.":                    "p :- a = b - (c - d) - e.",
		`p(-0, "bo", "Bo" ).`:                    `p(0, bo, "Bo").`,
		"p() :- not q(), r ( _ ) .":              "p :- not q, r(_).",
		"p:-X=(((1+2))+3)+(4).":                  "p :- X = 1 + 2 + 3 + 4.",
		"p:-X=1+(2+(3+4)).":                      "p :- X = 1 + (2 + (3 + 4)).",
		"p:-X=(2*3)+(4/5)%6.":                    "p :- X = 2 * 3 + 4 / 5 % 6.",
		"p:-X=-(-9223372036854775808).":          "p :- X = --9223372036854775808.",
		"p:-X=-(-(Y)).":                          "p :- X = --Y.",
		"p:-X=(-Y)*(-2)-(-(2)).":                 "p :- X = -Y * -2 - -(2).",
		"p:-X=-0*-(0).":                          "p :- X = 0 * -(0).",
		"p:-len((S))>=chars(back((((\"a\"))))).": "p :- len(S) >= chars(back(a)).",
		"p(sum ( X )) :-\tq(\n\"\\x61\"\r). # p": "p(sum(X)) :- q(a).",
		"p:-(a)=(b).":                            "p :- a = b.",
		`p:-"not"="\x0a".`:                       `p :- "not" = "\n".`,
	} {
		r, fault := parse.Rule(source)
		if (fault != api.Fault{}) {
			t.Errorf("%q: %v", source, fault)
		}
		oneRule().want(t, r, one)
		wantBack(t, oneRule(), parse.Rule, r)
	}
}

// P6.6: sources in which any token may stand anywhere: what is read at all is written and read again.
func TestAnyTokens(t *testing.T) {
	d := dice(4)
	read := 0
	for range 300000 {
		var words []string
		for range 1 + d.below(7) {
			words = append(words, pick(&d, "p", "X", "_", "0", "5", `"a"`, `"P"`, "-", "-", "+", "&", "*", "(", ")", "(", ")", "len(", "not", "count()", "sum("))
		}
		source := "p :- X = " + strings.Join(words, " ") + "."
		if r, fault := parse.Rule(source); fault == (api.Fault{}) {
			read++
			wantBack(t, oneRule(), parse.Rule, r)
		}
	}
	if read < 3000 {
		t.Errorf("only %d sources are without a fault", read)
	}
}

// wantUnlike keeps what each text says: two unlike things have unlike texts.
func wantUnlike[T any](t *testing.T, c call[T], seen map[string]string, thing T) {
	t.Helper()
	text, err := c.ask(thing)
	if err != api.OK {
		t.Fatalf("%s(%s) = %d", c.name, brief("%#v", thing), err)
	}
	is := told(reflect.ValueOf(thing))
	if other, again := seen[text]; again && other != is {
		t.Fatalf("%s: two unlike things are written %s", c.name, brief("%q", text))
	}
	seen[text] = is
}

// P6.6: unlike things have unlike texts.
func TestUnlikeTexts(t *testing.T) {
	rules, lists, asked, whole := map[string]string{}, map[string]string{}, map[string]string{}, map[string]string{}
	terms := []api.Term{v("X"), v("Y"), n(1), n(-1), s("1"), s("-1"), s("X"), s("a"), s("\"a\""), s("_"), s(""), s("a, a"), s("a), a(")}
	for _, x := range terms {
		for _, y := range terms {
			for _, l := range [][]api.Literal{{pos("p", x, y)}, {not("p", x, y)}, {pos("p", x), pos("p", y)}, {pos("p", x, y), pos("p")}, {cmp(ex(x), api.RelEq, ex(y))}, {cmp(ex(x), api.RelLe, ex(y))},
				{cmp(op(api.OpSub, ex(x), ex(y)), api.RelEq, ex(y))}, {cmp(op(api.OpSub, ex(x), op(api.OpNeg, ex(y))), api.RelEq, ex(y))}, {cmp(op(api.OpNeg, op(api.OpSub, ex(x), ex(y))), api.RelEq, ex(y))}} {
				for _, h := range [][]api.Arg{nil, head(x), head(x, y), head(y, x)} {
					wantUnlike(t, oneRule(), rules, rule("p", h, l...))
				}
			}
			wantUnlike(t, oneRule(), rules, rule("p", head(x, y)))
			wantUnlike(t, queries(), asked, atom("p", x, y))
			wantUnlike(t, queries(), asked, atom("p", x))
			wantUnlike(t, queries(), asked, atom("p", x, v("_"), y))
			for _, l := range [][]api.Fact{{fact("p", x.Val, y.Val)}, {fact("p", x.Val), fact("p", y.Val)}, {fact("p", x.Val), fact("q", y.Val)}, {fact("p", x.Val), fact("p"), fact("p", y.Val)}} {
				if x.Var == "" && y.Var == "" {
					wantUnlike(t, facts(), lists, l)
				}
			}
			for _, l := range [][]api.Rule{{rule("p", head(x)), rule("p", head(y))}, {rule("p", head(x, y))}, {rule("p", head(x), pos("p", y))}, {rule("p", nil), rule("p", head(x), not("p", y))}} {
				wantUnlike(t, programs(), whole, program(l...))
			}
		}
	}
	d := dice(5)
	for range 3000 {
		wantUnlike(t, oneRule(), rules, anyRule(&d))
		wantUnlike(t, queries(), asked, anyAtom(&d))
		wantUnlike(t, facts(), lists, anyFacts(&d))
		wantUnlike(t, programs(), whole, anyProgram(&d))
	}
}

// asRule is a fact as a rule without a body.
func asRule(f api.Fact) api.Rule {
	r := rule(f.Pred, nil)
	for _, w := range f.Args {
		r.Head = append(r.Head, api.Arg{Term: api.Term{Val: w}})
	}
	return r
}

// P6.8: the lines of programs and facts, and their bytes.
func TestLines(t *testing.T) {
	d := dice(6)
	for range 600 {
		p, l := anyProgram(&d), anyFacts(&d)
		var rules, given strings.Builder
		for _, r := range p.Rules {
			line, _ := print.Rule(r)
			rules.WriteString(line + "\n")
		}
		for _, f := range l {
			line, _ := print.Rule(asRule(f))
			given.WriteString(line + "\n")
		}
		programs().want(t, p, rules.String())
		facts().want(t, l, given.String())
		if t.Failed() {
			return
		}
		for text, count := range map[string]int{rules.String(): len(p.Rules), given.String(): len(l)} {
			if lines := strings.Split(text, "\n"); len(lines) != count+1 || lines[count] != "" || !isPlain(strings.Join(lines, "")) {
				t.Fatalf("%d lines: %s", count, brief("%q", text))
			}
		}
	}
}

// P6.8: bytes, of everything.
func TestBytes(t *testing.T) {
	d := dice(7)
	for range 2000 {
		var l [6]string
		l[0], _ = print.Term(anyTerm(&d))
		l[1], _ = print.Expr(anyExpr(&d, 1+d.below(5)))
		l[2], _ = print.Atom(anyAtom(&d))
		l[3], _ = print.Literal(anyLiteral(&d))
		l[4], _ = print.Rule(anyRule(&d))
		l[5], _ = print.Query(anyAtom(&d))
		for _, text := range l {
			if text == "" || !isPlain(text) {
				t.Fatalf("a text with other bytes: %s", brief("%q", text))
			}
		}
	}
}
