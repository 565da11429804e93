package types_test

import (
	"math"
	"reflect"
	"slices"
	"strings"
	"testing"

	"pedigree/api"
	"pedigree/types"
)

// wild makes structs of which any field may be wrong, now and then.
type wild struct{ dice }

func (w *wild) often() bool { return w.below(40) > 0 }

func (w *wild) small() int8 {
	return pick[int8](&w.dice, 0, 1, 2, 3, 4, 5, 6, 10, 11, -1, math.MaxInt8, math.MinInt8)
}

func (w *wild) word() string {
	return pick(&w.dice, "", "_", "X", "x", "A", "N", "p", "q", "q_", "not", " ", "\xff", strings.Repeat("X", 121), strings.Repeat("p", 121))
}

func (w *wild) value() api.Value {
	if w.often() {
		return pick(&w.dice, num(1), num(2), text("a"), text(strings.Repeat("a", 200)))
	}
	return api.Value{Kind: api.Kind(w.small()), Num: int64(w.small()), Text: pick(&w.dice, w.word(), strings.Repeat("a", 201))}
}

func (w *wild) term(t api.Term) api.Term {
	if w.often() {
		return t
	}
	x := api.Term{Var: w.word()}
	if w.below(2) == 0 {
		x.Val = w.value()
	}
	return x
}

func (w *wild) expr(e api.Expr) api.Expr {
	e.Term = w.term(e.Term)
	if !w.often() {
		e.Op = api.Op(w.small())
	}
	var kids []api.Expr
	for _, kid := range e.Kids {
		if w.often() {
			kids = append(kids, w.expr(kid))
		}
	}
	if !w.often() {
		kids = append(kids, e)
	}
	e.Kids = kids
	return e
}

func (w *wild) literal(l api.Literal) api.Literal {
	if !w.often() {
		l.Kind = api.LitKind(w.small())
	}
	if !w.often() {
		l.Rel = api.Rel(w.small())
	}
	if !w.often() {
		l.Atom.Pred = w.word()
	}
	var args []api.Term
	for _, t := range l.Atom.Args {
		if w.below(150) > 0 {
			args = append(args, w.term(t))
		}
	}
	l.Atom.Args = args
	if l.Kind == api.LCmp || !w.often() {
		l.Left, l.Right = w.expr(l.Left), w.expr(l.Right)
	}
	return l
}

func (w *wild) rule() api.Rule {
	r := anyRule(&w.dice)
	if w.below(40) == 0 {
		r.Head = append(r.Head, api.Arg{Term: n(1)})
	}
	if w.below(2) == 0 {
		return r
	}
	if !w.often() {
		r.Pred = w.word()
	}
	for i := range r.Head {
		r.Head[i].Term = w.term(r.Head[i].Term)
		if !w.often() {
			r.Head[i].Agg = api.Agg(w.small())
		}
	}
	var body []api.Literal
	for _, l := range r.Body {
		if w.often() {
			body = append(body, w.literal(l))
		}
	}
	r.Body = body
	return r
}

func (w *wild) fact() api.Fact {
	shape := pick(&w.dice, shapes()...)
	f := fact(shape.Pred)
	for _, t := range shape.Cols {
		x := w.value()
		if w.below(3) > 0 {
			x = pick(&w.dice, num(1), num(2), text("a"))
			if t == api.TyNum {
				x = num(3)
			}
			if t == api.TyText {
				x = text("b")
			}
		}
		f.Args = append(f.Args, x)
	}
	if !w.often() {
		f.Pred = w.word()
	}
	if !w.often() {
		f.Args = append(f.Args, w.value())
	}
	return f
}

// input is what all three calls take.
type input struct {
	Rules []api.Rule
	Facts []api.Fact
	Sigs  []api.Sig
}

func (w *wild) input() input {
	x := input{Sigs: anySigs(&w.dice)}
	for range w.below(6) {
		x.Rules = append(x.Rules, w.rule())
	}
	for range w.below(6) {
		x.Facts = append(x.Facts, w.fact())
	}
	if !w.often() {
		x.Sigs = append(x.Sigs, api.Sig{Pred: w.word(), Cols: []api.Type{api.Type(w.small())}})
	}
	return x
}

// P8.1 to P8.4, R1, R2: any structs, as they may be or not.
func TestAnything(t *testing.T) {
	w := &wild{dice(7)}
	inferred, asked, fits := map[api.Errno]int{}, map[api.Errno]int{}, map[bool]int{}
	for range 10000 {
		x := w.input()
		_, _, err := infer(t, x.Rules)
		inferred[err]++
		for _, r := range x.Rules {
			_, err := vars(t, r, x.Sigs)
			asked[err]++
		}
		got := types.Fits(x.Facts, x.Sigs)
		if got != slowFits(x.Facts, x.Sigs) {
			t.Fatalf("Fits(%s, %s) = %v", brief(x.Facts), showSigs(x.Sigs), got)
		}
		fits[got]++
	}
	for _, code := range []api.Errno{api.OK, api.ErrTerm, api.ErrSafe, api.ErrArity, api.ErrType} {
		if inferred[code] < 100 || asked[code] < 100 {
			t.Errorf("the error %d: of %d programs, %d rules", code, inferred[code], asked[code])
		}
	}
	if asked[api.ErrArg] < 100 || fits[true] < 1000 || fits[false] < 1000 {
		t.Errorf("%v, %v", asked, fits)
	}
}

// roomy copies a thing; each of its lists has spare room, which is filled too.
func roomy(x reflect.Value) reflect.Value {
	out := reflect.New(x.Type()).Elem()
	switch x.Kind() {
	case reflect.Struct:
		for i := range x.NumField() {
			out.Field(i).Set(roomy(x.Field(i)))
		}
	case reflect.Slice:
		l := reflect.MakeSlice(x.Type(), 0, x.Len()+2)
		for i := range x.Len() {
			l = reflect.Append(l, roomy(x.Index(i)))
		}
		out.Set(l)
		if x.Len() > 0 {
			reflect.Append(l, x.Index(0), x.Index(x.Len()-1))
		}
	default:
		out.Set(x)
	}
	return out
}

// withRoom tells a thing and what stands in its lists' spare room.
func withRoom(x reflect.Value) string {
	var out strings.Builder
	switch x.Kind() {
	case reflect.Struct:
		for i := range x.NumField() {
			out.WriteString(withRoom(x.Field(i)) + ";")
		}
	case reflect.Slice:
		for i := range x.Len() {
			out.WriteString(withRoom(x.Index(i)) + ",")
		}
		out.WriteString(told(x.Slice3(x.Len(), x.Cap(), x.Cap()).Interface()))
	default:
		return told(x.Interface())
	}
	return out.String()
}

// fill overwrites a list with its spare room.
func fill[T any](l []T, with T) {
	l = l[:cap(l)]
	for i := range l {
		l[i] = with
	}
}

// wantApart overwrites each list of Sigs with its spare room, one behind the other: no other may turn by it.
func wantApart(t *testing.T, l []api.Sig) {
	t.Helper()
	for i := range l {
		others := told(l[:i]) + told(l[i+1:])
		fill(l[i].Cols, 99)
		if told(l[:i])+told(l[i+1:]) != others {
			t.Fatalf("two lists share memory: %s", showSigs(l))
		}
	}
	fill(l, api.Sig{Pred: "spoilt"})
}

// answers are what all calls say of an input; the lists among them are then overwritten.
func answers(t *testing.T, x input) []any {
	t.Helper()
	sigs, at, err := types.Infer(program(x.Rules...))
	out := []any{told(sigs), at, err, types.Fits(x.Facts, x.Sigs)}
	again, _, _ := types.Infer(program(x.Rules...))
	wantApart(t, sigs)
	out = append(out, told(again))
	for _, r := range x.Rules {
		l, err := types.Vars(r, x.Sigs)
		out = append(out, told(l), err)
		again, _ := types.Vars(r, x.Sigs)
		fill(l, 99)
		out = append(out, told(again))
	}
	return out
}

// R4, R5: what is handed in is left as it was, its spare room too; what is told is a list of its own; and each answer is the same each time.
func TestHandedInIsLeft(t *testing.T) {
	w := &wild{dice(8)}
	for range 3000 {
		x := roomy(reflect.ValueOf(w.input())).Interface().(input)
		ahead := withRoom(reflect.ValueOf(x))
		one := answers(t, x)
		if withRoom(reflect.ValueOf(x)) != ahead {
			t.Fatalf("what was handed in has turned: %s", brief(x))
		}
		if two := answers(t, x); !slices.Equal(one, two) {
			t.Fatalf("%s: %s, then %s", brief(x), brief(one), brief(two))
		}
	}
}

// R4: empty and nil mean the same.
func TestEmptyAndNil(t *testing.T) {
	wantInfer(t, nil, "")
	wantInfer(t, []api.Rule{}, "")
	for _, body := range [][]api.Literal{nil, {}, {pos("p")}, {{Kind: api.LNot, Atom: api.Atom{Pred: "p", Args: []api.Term{}}}}} {
		for _, args := range [][]api.Arg{nil, {}} {
			r := api.Rule{Pred: "p", Head: args, Body: body}
			wantInfer(t, []api.Rule{r, rule("p", nil)}, "p()")
			for _, l := range [][]api.Sig{nil, {}, {{Pred: "p"}}, {{Pred: "p", Cols: []api.Type{}}, {Pred: "z"}}} {
				wantVars(t, r, l, "")
				refuseVars(t, r, append(slices.Clone(l), api.Sig{Pred: "p", Cols: typesOf("?")}), api.ErrArity)
				wantFits(t, []api.Fact{}, l, true)
				wantFits(t, nil, l, true)
				wantFits(t, []api.Fact{{Pred: "p"}, {Pred: "p", Args: []api.Value{}}}, l, true)
			}
		}
	}
}
