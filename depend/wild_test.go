package depend_test

import (
	"math"
	"reflect"
	"slices"
	"strings"
	"testing"

	"pedigree/api"
	"pedigree/depend"
)

// wild makes structs of which any field may be wrong.
type wild struct{ dice }

func (w *wild) small() int8 {
	return pick[int8](&w.dice, 0, 1, 2, 3, 4, 5, 6, 10, 11, -1, math.MaxInt8, math.MinInt8)
}

func (w *wild) word() string {
	return pick(&w.dice, "", "_", "X", "x", "a", "b", "c", "not", " ", "\xff", strings.Repeat("a", 121))
}

func (w *wild) term() api.Term {
	t := api.Term{Var: w.word()}
	if w.below(2) == 0 {
		t.Val = api.Value{Kind: api.Kind(w.small()), Num: int64(w.small()), Text: w.word()}
	}
	return t
}

func (w *wild) expr(depth int) api.Expr {
	e := api.Expr{Op: api.Op(w.small()), Term: w.term()}
	for range w.below(depth + 1) {
		e.Kids = append(e.Kids, w.expr(depth-1))
	}
	return e
}

func (w *wild) literal() api.Literal {
	l := api.Literal{Kind: api.LitKind(w.small()), Atom: atom(w.word()), Rel: api.Rel(w.small())}
	for range w.below(3) {
		l.Atom.Args = append(l.Atom.Args, w.term())
	}
	if w.below(3) == 0 {
		l.Left, l.Right = w.expr(2), w.expr(2)
	}
	return l
}

// rule mostly is one that may be used, and then some of it is spoilt.
func (w *wild) rule() api.Rule {
	c := anyChances(&w.dice)
	r := c.rule(&w.dice)
	if w.below(3) == 0 {
		return r
	}
	if w.below(3) == 0 {
		r.Pred = w.word()
	}
	for range w.below(3) {
		r.Body = slices.Insert(r.Body, w.below(len(r.Body)+1), w.literal())
	}
	if w.below(4) == 0 {
		r.Head = append(r.Head, api.Arg{Agg: api.Agg(w.small()), Term: w.term()})
	}
	if len(r.Body) > 0 && w.below(4) == 0 {
		r.Body[w.below(len(r.Body))].Kind = api.LitKind(w.small())
	}
	return r
}

func (w *wild) program() api.Program {
	var p api.Program
	for range w.below(6) {
		p.Rules = append(p.Rules, w.rule())
	}
	return p
}

// P9.1 to P9.7, R1, R2: any structs, as they may be or not.
func TestAnything(t *testing.T) {
	w := &wild{dice(8)}
	count := map[api.Errno]int{}
	for range 6000 {
		count[holdAgainstSlow(t, w.program())]++
	}
	for _, code := range []api.Errno{api.OK, api.ErrNegCycle, api.ErrAggCycle, api.ErrMakeCycle} {
		if count[code] < 50 {
			t.Errorf("the error %d: %d times", code, count[code])
		}
	}
}

// roomy copies a thing; each of its lists has spare room, which is filled too.
func roomy(x reflect.Value) reflect.Value {
	out := reflect.New(x.Type()).Elem()
	switch x.Kind() {
	case reflect.Struct:
		for i := range x.NumField() {
			out.Field(i).Set(roomy(x.Field(i)))
		}
	case reflect.Slice:
		l := reflect.MakeSlice(x.Type(), 0, x.Len()+2)
		for i := range x.Len() {
			l = reflect.Append(l, roomy(x.Index(i)))
		}
		out.Set(l)
		if x.Len() > 0 {
			reflect.Append(l, x.Index(0), x.Index(x.Len()-1))
		}
	default:
		out.Set(x)
	}
	return out
}

// withRoom tells a thing and what stands in its lists' spare room.
func withRoom(x reflect.Value) string {
	var out strings.Builder
	switch x.Kind() {
	case reflect.Struct:
		for i := range x.NumField() {
			out.WriteString(withRoom(x.Field(i)) + ";")
		}
	case reflect.Slice:
		for i := range x.Len() {
			out.WriteString(withRoom(x.Index(i)) + ",")
		}
		out.WriteString(told(x.Slice3(x.Len(), x.Cap(), x.Cap()).Interface()))
	default:
		return told(x.Interface())
	}
	return out.String()
}

// span is where a list lies, with its spare room.
type span struct{ from, to uintptr }

// spans are those of all lists of a thing.
func spans(x reflect.Value) []span {
	var out []span
	switch x.Kind() {
	case reflect.Struct:
		for i := range x.NumField() {
			out = append(out, spans(x.Field(i))...)
		}
	case reflect.Slice:
		if x.Cap() > 0 {
			out = append(out, span{x.Pointer(), x.Pointer() + uintptr(x.Cap())*x.Type().Elem().Size()})
		}
		for i := range x.Len() {
			out = append(out, spans(x.Index(i))...)
		}
	}
	return out
}

// wantApart: no two lists of some things share memory.
func wantApart(t *testing.T, things ...any) {
	t.Helper()
	var l []span
	for _, x := range things {
		l = append(l, spans(reflect.ValueOf(x))...)
	}
	slices.SortFunc(l, func(a, b span) int {
		if a.from < b.from {
			return -1
		}
		return 1
	})
	for i := range len(l) - 1 {
		if l[i].to > l[i+1].from {
			t.Fatalf("two lists share memory: %s", brief(things))
		}
	}
}

// answers are what all calls say of a program.
func answers(p api.Program) []any {
	levels, at, err := depend.Levels(p)
	ahead, plain := depend.Split(p)
	out := []any{depend.Edges(p), depend.Parts(p), levels, []int{at}, []api.Errno{err}, ahead, plain}
	for _, x := range append(slowPreds(p), "nobody") {
		out = append(out, depend.Reach(p, x))
	}
	return out
}

// R4, R5: what is handed in is left as it was, its spare room too; what is told is memory of its own; and each answer is the same each time.
func TestHandedInIsLeft(t *testing.T) {
	w := &wild{dice(9)}
	for range 2000 {
		p := w.program()
		if w.below(2) == 0 {
			p = anyProgram(&w.dice)
		}
		p = roomy(reflect.ValueOf(p)).Interface().(api.Program)
		ahead := withRoom(reflect.ValueOf(p))
		one := answers(p)
		isOne, isPlain := depend.OneLevel(p.Rules), depend.Plain(p.Rules)
		if withRoom(reflect.ValueOf(p)) != ahead {
			t.Fatalf("what was handed in has turned: %s", brief(p))
		}
		two := answers(p)
		for i := range one {
			if told(one[i]) != told(two[i]) || isOne != depend.OneLevel(p.Rules) || isPlain != depend.Plain(p.Rules) {
				t.Fatalf("%s: %s, then %s", brief(p), brief(one[i]), brief(two[i]))
			}
		}
		wantApart(t, append(append([]any{p}, one...), two...)...)
	}
}

// R4: empty and nil mean the same.
func TestEmptyAndNil(t *testing.T) {
	wantEdges(t, api.Program{Rules: []api.Rule{}}, "")
	wantParts(t, api.Program{Rules: []api.Rule{}}, "")
	wantLevels(t, api.Program{Rules: []api.Rule{}}, "")
	wantReach(t, api.Program{Rules: []api.Rule{}}, "p", "p")
	wantSplit(t, api.Program{Rules: []api.Rule{}})
	for _, args := range [][]api.Arg{nil, {}} {
		for _, body := range [][]api.Literal{nil, {}} {
			p := program(api.Rule{Pred: "p", Head: args, Body: body}, api.Rule{Head: args, Body: body})
			wantEdges(t, p, "")
			wantParts(t, p, " | p")
			wantLevels(t, p, " 0, p 0")
			wantReach(t, p, "p", "p")
			wantReach(t, p, "", "")
			wantSplit(t, p)
			wantFlat(t, p.Rules, true, true)
		}
	}
}

// R1, P9.6: an expression that is as deep as may be handed in is told as it is.
func TestSplitCopiesDeepThings(t *testing.T) {
	const depth = 1<<16 - 10
	e := ex(n(7))
	for range depth {
		e = op(api.OpNeg, e)
	}
	ahead, plain := depend.Split(program(rule("p", nil, api.Literal{Left: e, Right: ex(n(8))}, not("q")), rule("q", nil)))
	if len(ahead.Rules) != 1 || len(plain.Rules) != 1 || len(plain.Rules[0].Body) != 2 {
		t.Fatal("the rules are not told as they are")
	}
	l := plain.Rules[0].Body[0]
	got, count := l.Left, 0
	for ; len(got.Kids) == 1; got = got.Kids[0] {
		count++
	}
	if count != depth || told(got) != told(ex(n(7))) || told(l.Right) != told(ex(n(8))) {
		t.Errorf("an expression of depth %d is told as one of depth %d", depth, count)
	}
}
