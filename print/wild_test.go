package print_test

import (
	"math"
	"reflect"
	"slices"
	"strings"
	"testing"

	"pedigree/api"
	"pedigree/lex"
	"pedigree/print"
	"pedigree/term"
	"pedigree/value"
)

// wild makes structs of which any field may be wrong, now and then.
type wild struct{ dice }

func (w *wild) often() bool { return w.below(12) > 0 }

func (w *wild) small() int8 {
	return pick[int8](&w.dice, 0, 1, 2, 3, 4, 5, 6, 7, 10, 11, -1, math.MaxInt8, math.MinInt8)
}

func (w *wild) word() string {
	return pick(&w.dice, "", "_", "X", "x", "p", "not", "P", " ", "\n", "\xff", "count()", longest("X", 120), longest("X", 121), longest("p", 121))
}

func (w *wild) value() api.Value {
	if w.often() {
		return anyValue(&w.dice)
	}
	return api.Value{Kind: api.Kind(w.small()), Num: int64(w.small()), Text: w.word()}
}

func (w *wild) term() api.Term {
	if w.often() {
		return anyTerm(&w.dice)
	}
	return api.Term{Var: w.word(), Val: w.value()}
}

func (w *wild) expr(depth int) api.Expr {
	if w.often() {
		return anyExpr(&w.dice, depth)
	}
	e := api.Expr{Op: api.Op(w.small())}
	if w.below(2) == 0 {
		e.Term = w.term()
	}
	for range w.below(4) {
		if depth > 1 {
			e.Kids = append(e.Kids, w.expr(depth-1))
		}
	}
	return e
}

func (w *wild) name() string {
	if w.often() {
		return anyName(&w.dice)
	}
	return w.word()
}

func (w *wild) count() int { return pick(&w.dice, 0, 1, 1, 2, 2, 3, 16, 17, 24, 25) }

func (w *wild) atom() api.Atom {
	a := atom(w.name())
	for range w.count() {
		a.Args = append(a.Args, w.term())
	}
	return a
}

func (w *wild) literal() api.Literal {
	if w.often() {
		return anyLiteral(&w.dice)
	}
	l := api.Literal{Kind: api.LitKind(w.small())}
	if w.below(3) > 0 {
		l.Atom = w.atom()
	}
	if w.below(3) > 0 {
		l.Rel, l.Left, l.Right = api.Rel(w.small()), w.expr(9), w.expr(8)
	}
	return l
}

func (w *wild) rule() api.Rule {
	r := rule(w.name(), nil)
	for range w.count() / 2 {
		r.Head = append(r.Head, anyArg(&w.dice))
	}
	if !w.often() {
		r.Head = append(r.Head, api.Arg{Agg: api.Agg(w.small()), Term: w.term()})
	}
	for range w.count() / 2 {
		r.Body = append(r.Body, w.literal())
	}
	if !w.often() {
		r.Body = append(r.Body, pos("p", many(w.count())...))
	}
	return r
}

func (w *wild) fact() api.Fact {
	f := fact(w.name())
	for range w.count() {
		f.Args = append(f.Args, w.value())
	}
	return f
}

func factMayBe(f api.Fact) bool {
	return lex.Name(f.Pred) && len(f.Args) <= 24 && !slices.ContainsFunc(f.Args, func(x api.Value) bool { return value.Check(x) != api.OK })
}

// wantJust asks for a text just where a thing is as it may be, and for the error and nothing beside it where it is not.
func wantJust[T any](t *testing.T, c call[T], thing T, mayBe bool, code api.Errno) {
	t.Helper()
	text, err := c.ask(thing)
	if mayBe != (err == api.OK) || !mayBe && (err != code || text != "") {
		t.Fatalf("%s(%s) = %s, %d", c.name, brief("%#v", thing), brief("%q", text), err)
	}
}

// R1, R2, P6.1 to P6.4: any structs, as they may be or not.
func TestAnyStructs(t *testing.T) {
	w := &wild{dice(8)}
	good := 0
	for range 4000 {
		x, e, a, l, r, f := w.term(), w.expr(1+w.below(9)), w.atom(), w.literal(), w.rule(), w.fact()
		wantJust(t, terms(), x, term.CheckTerm(x) == api.OK, api.ErrTerm)
		wantJust(t, exprs(), e, term.CheckExpr(e) == api.OK, api.ErrTerm)
		wantJust(t, atoms(), a, term.CheckAtom(a) == api.OK, api.ErrTerm)
		wantJust(t, queries(), a, term.CheckAtom(a) == api.OK, api.ErrTerm)
		wantJust(t, literals(), l, term.CheckLiteral(l) == api.OK, api.ErrTerm)
		wantJust(t, oneRule(), r, term.CheckRule(r) == api.OK, api.ErrTerm)
		wantJust(t, programs(), program(counted(), r, even()), term.CheckRule(r) == api.OK, api.ErrTerm)
		wantJust(t, facts(), []api.Fact{fact("p"), f, fact("q", num(1))}, factMayBe(f), api.ErrValue)
		if term.CheckRule(r) == api.OK && factMayBe(f) {
			good++
		}
	}
	if good < 200 || good > 3800 {
		t.Errorf("of 4000 pairs %d are as they may be", good)
	}
}

// roomy copies a thing; each of its lists has spare room, which is filled too.
func roomy(x reflect.Value) reflect.Value {
	out := reflect.New(x.Type()).Elem()
	switch x.Kind() {
	case reflect.Struct:
		for i := range x.NumField() {
			out.Field(i).Set(roomy(x.Field(i)))
		}
	case reflect.Slice:
		l := reflect.MakeSlice(x.Type(), 0, x.Len()+2)
		for i := range x.Len() {
			l = reflect.Append(l, roomy(x.Index(i)))
		}
		out.Set(l)
		if x.Len() > 0 {
			reflect.Append(l, x.Index(0), x.Index(x.Len()-1))
		}
	default:
		out.Set(x)
	}
	return out
}

// withRoom tells a thing and what stands in its lists' spare room.
func withRoom(x reflect.Value) string {
	var out strings.Builder
	switch x.Kind() {
	case reflect.Struct:
		for i := range x.NumField() {
			out.WriteString(withRoom(x.Field(i)) + ";")
		}
	case reflect.Slice:
		for i := range x.Len() {
			out.WriteString(withRoom(x.Index(i)) + ",")
		}
		out.WriteString(told(x.Slice3(x.Len(), x.Cap(), x.Cap())))
	default:
		return told(x)
	}
	return out.String()
}

// wantLeft asks whether what is handed in is left as it was, its spare room too (R4), and whether the answer is the same each time (R5).
func wantLeft[T any](t *testing.T, c call[T], thing T) {
	t.Helper()
	thing = roomy(reflect.ValueOf(thing)).Interface().(T)
	ahead := withRoom(reflect.ValueOf(thing))
	one, err := c.ask(thing)
	if withRoom(reflect.ValueOf(thing)) != ahead {
		t.Fatalf("%s changes what is handed in: %s", c.name, brief("%q", one))
	}
	if two, again := c.ask(thing); one != two || err != again {
		t.Fatalf("%s answers %s, %d and %s, %d", c.name, brief("%q", one), err, brief("%q", two), again)
	}
}

// R4, R5.
func TestHandedInIsLeft(t *testing.T) {
	w := &wild{dice(9)}
	for range 400 {
		wantLeft(t, terms(), w.term())
		wantLeft(t, exprs(), w.expr(1+w.below(6)))
		wantLeft(t, atoms(), w.atom())
		wantLeft(t, literals(), w.literal())
		wantLeft(t, oneRule(), w.rule())
		wantLeft(t, programs(), anyProgram(&w.dice))
		wantLeft(t, programs(), program(anyRule(&w.dice), w.rule(), anyRule(&w.dice)))
		wantLeft(t, facts(), anyFacts(&w.dice))
		wantLeft(t, facts(), []api.Fact{w.fact(), w.fact()})
		wantLeft(t, queries(), w.atom())
	}
}

// P6.4: facts stand in the order in which they are handed in, also those that stand twice.
func TestFactsKeepTheirOrder(t *testing.T) {
	l := []api.Fact{fact("p", num(2)), fact("p", num(1)), fact("b"), fact("a"), fact("p", num(1)), fact("b"), fact("p", text("a")), fact("p", num(-3))}
	line := func(f api.Fact) string {
		text, _ := print.Facts([]api.Fact{f})
		return text
	}
	for range len(l) {
		l = append(l[1:len(l):len(l)], l[0])
		var want strings.Builder
		for _, f := range l {
			want.WriteString(line(f))
		}
		facts().want(t, l, want.String())
	}
}
