package check_test

import (
	"math"
	"reflect"
	"slices"
	"strings"
	"testing"

	"pedigree/api"
	"pedigree/check"
	"pedigree/term"
)

// wild makes structs of which any field may be wrong, now and then.
type wild struct{ dice }

func (w *wild) often() bool { return w.below(25) > 0 }

func (w *wild) small() int8 {
	return pick[int8](&w.dice, 0, 1, 2, 3, 4, 5, 6, 10, 11, -1, math.MaxInt8, math.MinInt8)
}

func (w *wild) word() string {
	return pick(&w.dice, "", "_", "X", "x", "A", "B", "p", "q_", "not", " ", "\xff", longest("X", 24), longest("X", 25), longest("X", 121), longest("p", 25), longest("p", 121))
}

func (w *wild) term() api.Term {
	if w.often() {
		return anyTerm(&w.dice)
	}
	x := api.Term{Var: w.word()}
	if w.below(2) == 0 {
		x.Val = w.value()
	}
	return x
}

func (w *wild) value() api.Value {
	if w.often() {
		return pick(&w.dice, num(1), num(2), text("a"))
	}
	return api.Value{Kind: api.Kind(w.small()), Num: int64(w.small()), Text: w.word()}
}

func (w *wild) expr(depth int) api.Expr {
	if w.often() {
		return anyExpr(&w.dice)
	}
	e := api.Expr{Op: api.Op(w.small())}
	if w.below(2) == 0 {
		e.Op = api.OpTerm
	}
	if w.below(2) == 0 {
		e.Term = w.term()
	}
	for range w.below(3) {
		if depth > 1 {
			e.Kids = append(e.Kids, w.expr(depth-1))
		}
	}
	return e
}

func (w *wild) atom() api.Atom {
	a := anyAtom(&w.dice, func(*dice) api.Term { return w.term() })
	if !w.often() {
		a.Pred = w.word()
	}
	if !w.often() {
		a.Args = slices.Repeat([]api.Term{w.term()}, pick(&w.dice, 8, 9, 24, 25))
	}
	return a
}

func (w *wild) literal() api.Literal {
	switch {
	case w.below(3) == 0:
		return api.Literal{Kind: pick(&w.dice, api.LPos, api.LPos, api.LNot), Atom: w.atom()}
	case w.often():
		return pick(&w.dice, eq(ex(anyVar(&w.dice)), w.expr(9)), eq(w.expr(9), ex(anyVar(&w.dice))))
	}
	l := api.Literal{Kind: api.LitKind(w.below(5)), Atom: w.atom(), Rel: api.Rel(w.below(3)), Left: w.expr(9), Right: w.expr(8)}
	if w.below(9) == 0 {
		l.Kind, l.Rel = api.LitKind(w.small()), api.Rel(w.small())
	}
	return l
}

func (w *wild) body() []api.Literal {
	var out []api.Literal
	for range w.below(pick(&w.dice, 3, 5, 9, 15, 20)) {
		out = append(out, w.literal())
	}
	return out
}

func (w *wild) rule() api.Rule {
	a := w.atom()
	r := rule(a.Pred, head(a.Args...), w.body()...)
	if w.below(2) == 0 {
		r.Head = head(some(&w.dice, 2, anyNamed)...)
	}
	if !w.often() {
		r.Head = append(r.Head, api.Arg{Agg: api.Agg(w.small()), Term: w.term()})
	}
	return r
}

func (w *wild) fact() api.Fact {
	a := w.atom()
	f := fact(a.Pred)
	for range a.Args {
		f.Args = append(f.Args, w.value())
	}
	return f
}

func (w *wild) input() input {
	if w.below(2) == 0 {
		return anyInput(&w.dice)
	}
	x := input{Query: w.atom()}
	for range w.below(3) {
		x.Rules = append(x.Rules, w.rule())
	}
	for range w.below(4) {
		x.Facts = append(x.Facts, w.fact())
	}
	return x
}

// slowMakes is what P7.4 says.
func slowMakes(r api.Rule) bool {
	if term.CheckRule(r) != api.OK || !contained(term.RuleVars(r), slowLimited(r.Body)) {
		return false
	}
	operation := false
	var inHead, inAtoms []api.Term
	for _, arg := range r.Head {
		inHead = append(inHead, arg.Term)
	}
	for _, l := range r.Body {
		if l.Kind == api.LPos {
			inAtoms = append(inAtoms, l.Atom.Args...)
		}
		operation = operation || l.Kind == api.LCmp && (l.Left.Op != 0 || l.Right.Op != 0)
	}
	return operation && !contained(variables(inHead...), variables(inAtoms...))
}

// P7.1 to P7.4: any structs, as they may be or not.
func TestAnyRules(t *testing.T) {
	w := &wild{dice(6)}
	count := map[api.Errno]int{}
	makes := 0
	for range 30000 {
		r := w.rule()
		if got, want := check.Limited(r.Body), slowLimited(r.Body); !slices.Equal(got, want) {
			t.Fatalf("Limited(%s) = %v, want %v", brief(r.Body), got, want)
		}
		code := api.OK
		if term.CheckRule(r) != api.OK {
			code = api.ErrTerm
		} else if !contained(term.RuleVars(r), slowLimited(r.Body)) {
			code = api.ErrSafe
		}
		if got := check.Rule(r); got != code {
			t.Fatalf("Rule(%s) = %d, want %d", brief(r), got, code)
		}
		if got := check.Makes(r); got != slowMakes(r) {
			t.Fatalf("Makes(%s) = %v", brief(r), got)
		} else if got {
			makes++
		}
		count[code]++
	}
	if count[api.OK] < 1000 || count[api.ErrTerm] < 1000 || count[api.ErrSafe] < 1000 || makes < 200 {
		t.Errorf("of 30000 rules: %v, and %d make values", count, makes)
	}
}

// P7.1, P7.5 to P7.8: any structs, as they may be or not.
func TestAnyInputs(t *testing.T) {
	w := &wild{dice(7)}
	for range 15000 {
		x := w.input()
		wantInputLaws(t, x)
		all := slowPreds(x.Rules...)
		mayBe := true
		for _, f := range x.Facts {
			all = append(all, pred(f.Pred, len(f.Args)))
			mayBe = mayBe && factMayBe(f)
		}
		preds, err := check.Preds(program(x.Rules...), x.Facts)
		if twoArities(all...) != (err == api.ErrArity) || err != api.OK && (err != api.ErrArity || len(preds) > 0) {
			t.Fatalf("Preds(%s) = %v, %d", brief(x), preds, err)
		}
		slices.SortFunc(all, func(a, b api.Pred) int { return strings.Compare(a.Name, b.Name) })
		if err == api.OK && !slices.Equal(preds, slices.Compact(all)) {
			t.Fatalf("Preds(%s) = %v, want %v", brief(x), preds, slices.Compact(all))
		}
		code := err
		if !mayBe {
			code = api.ErrValue
		}
		for _, r := range slices.Backward(x.Rules) {
			if e := check.Rule(r); e != api.OK {
				code = e
			}
		}
		if got := check.Job(x.Rules, x.Facts); got != code {
			t.Fatalf("Job(%s) = %d, want %d", brief(x), got, code)
		}
	}
}

// roomy copies a thing; each of its lists has spare room, which is filled too.
func roomy(x reflect.Value) reflect.Value {
	out := reflect.New(x.Type()).Elem()
	switch x.Kind() {
	case reflect.Struct:
		for i := range x.NumField() {
			out.Field(i).Set(roomy(x.Field(i)))
		}
	case reflect.Slice:
		l := reflect.MakeSlice(x.Type(), 0, x.Len()+2)
		for i := range x.Len() {
			l = reflect.Append(l, roomy(x.Index(i)))
		}
		out.Set(l)
		if x.Len() > 0 {
			reflect.Append(l, x.Index(0), x.Index(x.Len()-1))
		}
	default:
		out.Set(x)
	}
	return out
}

// withRoom tells a thing and what stands in its lists' spare room.
func withRoom(x reflect.Value) string {
	var out strings.Builder
	switch x.Kind() {
	case reflect.Struct:
		for i := range x.NumField() {
			out.WriteString(withRoom(x.Field(i)) + ";")
		}
	case reflect.Slice:
		for i := range x.Len() {
			out.WriteString(withRoom(x.Index(i)) + ",")
		}
		out.WriteString(told(x.Slice3(x.Len(), x.Cap(), x.Cap()).Interface()))
	default:
		return told(x.Interface())
	}
	return out.String()
}

// fill overwrites a list with its spare room.
func fill[T any](l []T, with T) {
	l = l[:cap(l)]
	for i := range l {
		l[i] = with
	}
}

// answers are what all calls say of an input; the lists among them are then overwritten.
func answers(x input) []any {
	out := []any{x.ask(), check.Job(x.Rules, x.Facts)}
	preds, err := check.Preds(program(x.Rules...), x.Facts)
	out = append(out, told(preds), err)
	fill(preds, pred("spoilt", 99))
	for _, r := range x.Rules {
		names := check.Limited(r.Body)
		out = append(out, check.Rule(r), check.Makes(r), told(names))
		fill(names, "spoilt")
	}
	return out
}

// R4, R5: what is handed in is left as it was, its spare room too; what is told is a list of its own; and each answer is the same each time.
func TestHandedInIsLeft(t *testing.T) {
	w := &wild{dice(8)}
	for range 3000 {
		x := roomy(reflect.ValueOf(w.input())).Interface().(input)
		ahead := withRoom(reflect.ValueOf(x))
		one := answers(x)
		if withRoom(reflect.ValueOf(x)) != ahead {
			t.Fatalf("what was handed in has turned: %s", brief(x))
		}
		if two := answers(x); !slices.Equal(one, two) {
			t.Fatalf("%s: %s, then %s", brief(x), brief(one), brief(two))
		}
	}
}

// R4: two lists that are told share nothing.
func TestListsOfTheirOwn(t *testing.T) {
	body := bodyOf(t, "q(X, Y), Z = X")
	one, two := check.Limited(body), check.Limited(body)
	fill(one, "spoilt")
	wantSame(t, two, []string{"X", "Y", "Z"})
	p := program(rulesOf(t, "p(X) :- q(X).")...)
	first, _ := check.Preds(p, nil)
	second, _ := check.Preds(p, nil)
	fill(first, pred("spoilt", 99))
	wantSame(t, second, []api.Pred{pred("p", 1), pred("q", 1)})
}

func wantSame[T comparable](t *testing.T, got, want []T) {
	t.Helper()
	if !slices.Equal(got, want) {
		t.Errorf("%v, want %v", got, want)
	}
}

// R4: no rules, no facts and an empty body are the same as nil ones.
func TestEmptyAndNil(t *testing.T) {
	for _, body := range [][]api.Literal{nil, {}} {
		for _, args := range [][]api.Arg{nil, {}} {
			for _, l := range [][]api.Fact{nil, {}, {fact("q")}, {{Pred: "q", Args: []api.Value{}}}} {
				r := api.Rule{Pred: "p", Head: args, Body: body}
				wantLimited(t, body)
				wantRule(t, r, api.OK)
				wantMakes(t, r, false)
				wantJob(t, []api.Rule{r}, l, api.OK)
				wantInput(t, input{Rules: []api.Rule{r}, Facts: l, Query: api.Atom{Pred: "p", Args: []api.Term{}}}, api.Refusal{})
				wantInput(t, input{Rules: []api.Rule{}, Facts: l, Query: atom("p", v("X"))}, api.Refusal{})
			}
		}
	}
}
