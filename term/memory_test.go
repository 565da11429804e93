package term_test

import (
	"fmt"
	"reflect"
	"slices"
	"strings"
	"testing"

	"pedigree/api"
	"pedigree/term"
)

// tell writes a thing out with the spare room of its lists; terms says whether the terms are told.
func tell(x reflect.Value, terms, spare bool) string {
	if _, ok := x.Interface().(api.Term); ok && !terms {
		return "term"
	}
	var out strings.Builder
	switch x.Kind() {
	case reflect.Struct:
		for i := range x.NumField() {
			out.WriteString(tell(x.Field(i), terms, spare) + ";")
		}
	case reflect.Slice:
		count := x.Len()
		if spare {
			x = x.Slice(0, x.Cap())
		}
		fmt.Fprintf(&out, "%d[", count)
		for i := range x.Len() {
			out.WriteString(tell(x.Index(i), terms, spare) + ",")
		}
		out.WriteString("]")
	default:
		fmt.Fprintf(&out, "%#v", x.Interface())
	}
	return out.String()
}

// shape tells all of a thing but its terms.
func shape(thing any) string { return tell(reflect.ValueOf(thing), false, false) }

type span struct{ from, to uintptr }

// spans are where the lists of a thing lie, their spare room too.
func spans(x reflect.Value) []span {
	var out []span
	switch x.Kind() {
	case reflect.Struct:
		for i := range x.NumField() {
			out = append(out, spans(x.Field(i))...)
		}
	case reflect.Slice:
		if size := uintptr(x.Cap()) * x.Type().Elem().Size(); size > 0 {
			out = append(out, span{x.Pointer(), x.Pointer() + size})
		}
		for i := range x.Len() {
			out = append(out, spans(x.Index(i))...)
		}
	}
	return out
}

// apart: does no list lie where another does?
func apart(l []span) bool {
	slices.SortFunc(l, func(a, b span) int {
		if a.from < b.from {
			return -1
		}
		return 1
	})
	for i := 1; i < len(l); i++ {
		if l[i].from < l[i-1].to {
			return false
		}
	}
	return true
}

// roomy answers l with spare room in which more stands.
func roomy[T any](l []T, more ...T) []T {
	return append(slices.Clone(l), more...)[:len(l)]
}

func roomyExpr(e api.Expr) api.Expr {
	for i := range e.Kids {
		e.Kids[i] = roomyExpr(e.Kids[i])
	}
	e.Kids = roomy(e.Kids, ex(v("X")), ex(v("Y")))
	return e
}

func roomyRule(r api.Rule) api.Rule {
	for i := range r.Body {
		l := &r.Body[i]
		l.Atom.Args = roomy(l.Atom.Args, v("X"), n(1))
		l.Left, l.Right = roomyExpr(l.Left), roomyExpr(l.Right)
	}
	r.Head = roomy(r.Head, api.Arg{Term: v("X")})
	r.Body = roomy(r.Body, pos("q", v("X")))
	if r.Body != nil {
		r.Body = r.Body[:len(r.Body):len(r.Body)] // kids in a spare literal are no part of a rule's room
	}
	return r
}

// inputs are what the calls are given.
type inputs struct {
	Rule  api.Rule
	Atom  api.Atom
	Other api.Atom
	Expr  api.Expr
	Lit   api.Literal
	Pairs []api.Pair
	Fact  api.Fact
	Binds []api.Bind
}

// calls answers what every call of the layer that tells a list tells of x.
func calls(x inputs) []any {
	headAtom, _ := term.Head(x.Rule)
	applied, _ := term.ApplyRule(x.Pairs, x.Rule)
	canon, _ := term.Canon(x.Rule)
	matched, _ := term.Match(x.Atom, x.Fact)
	unified, _ := term.Unify(x.Atom, x.Other)
	term.Eval(x.Expr, x.Binds)
	term.Alike(x.Rule, x.Rule)
	term.CheckRule(x.Rule)
	return []any{headAtom, applied, canon, matched, unified, term.Apply(x.Pairs, x.Atom),
		term.AtomVars(x.Atom), term.ExprVars(x.Expr), term.LiteralVars(x.Lit), term.RuleVars(x.Rule)}
}

func wantApart(t *testing.T, x inputs) {
	t.Helper()
	before := tell(reflect.ValueOf(x), true, true)
	given := spans(reflect.ValueOf(x))
	first := calls(x)
	told := fmt.Sprintf("%#v", first)
	second := calls(x)
	if tell(reflect.ValueOf(x), true, true) != before {
		t.Fatalf("what was handed in has turned: %#v", x)
	}
	if fmt.Sprintf("%#v", first) != told || fmt.Sprintf("%#v", second) != told {
		t.Fatalf("%#v: the second calls answer otherwise than the first, or turn their answers", x)
	}
	var all []span
	for _, answer := range append(first, second...) {
		all = append(all, spans(reflect.ValueOf(answer))...)
	}
	if !apart(all) {
		t.Fatalf("%#v: answers share memory", x)
	}
	for _, in := range given {
		for _, out := range all {
			if in.from < out.to && out.from < in.to {
				t.Fatalf("%#v: an answer shares memory with what was handed in", x)
			}
		}
	}
}

// R4, R5: what is handed in stays as it was, its spare room too; no two lists that are answered share memory with each other or with what was handed in; the same calls answer the same.
func TestAnswersAreNewMemory(t *testing.T) {
	d := dice(9)
	for range 3000 {
		columns := 1 + d.below(4)
		x := inputs{Rule: roomyRule(anyRule(&d)), Atom: anyAtom(&d, columns), Other: anyAtom(&d, columns), Expr: roomyExpr(anyExpr(&d, 4)), Lit: anyLiteral(&d)}
		x.Atom.Args, x.Other.Args = roomy(x.Atom.Args, v("X"), v("Y")), roomy(x.Other.Args, v("X"), v("Y"))
		x.Pairs = roomy(anyPairs(&d), pair("X", n(9)), pair("Y", n(9)))
		x.Fact = fact(x.Atom.Pred, roomy(slices.Repeat(nums(1), columns), num(2), num(3))...)
		x.Binds = roomy([]api.Bind{bind("X", num(1)), bind("Y", text("a"))}, bind("Z", num(3)))
		wantApart(t, x)
	}
}

// R4: lists that share memory in what is handed in share none in what is answered.
func TestSharedListsComeApart(t *testing.T) {
	kids := roomy([]api.Expr{ex(v("X")), ex(v("Y"))}, ex(v("Z")))
	twice := []api.Expr{{Op: api.OpAdd, Kids: kids}, {Op: api.OpMul, Kids: kids}}
	args := roomy([]api.Term{v("X"), v("_"), v("Y")}, v("Z"))
	r := rule("p", head(v("X"), v("Y")), pos("q", args...), not("r", args[:2]...), pos("r", args[1:]...),
		cmp(api.Expr{Op: api.OpSub, Kids: kids}, api.RelEq, api.Expr{Op: api.OpDiv, Kids: twice}), cmp(api.Expr{Op: api.OpSub, Kids: twice}, api.RelEq, api.Expr{Op: api.OpNeg, Kids: kids[:1]}))
	wantApart(t, inputs{Rule: r, Atom: r.Body[0].Atom, Other: r.Body[0].Atom, Expr: r.Body[3].Left, Lit: r.Body[4], Pairs: []api.Pair{pair("X", v("Y")), pair("Y", v("X"))}, Fact: fact("q", nums(1, 2, 3)...)})
	x, e := term.ApplyRule([]api.Pair{pair("X", v("Y")), pair("Y", v("X"))}, r)
	if e != api.OK {
		t.Fatalf("ApplyRule = %d", e)
	}
	back, _ := term.ApplyRule([]api.Pair{pair("X", v("Y")), pair("Y", v("X"))}, x)
	if !same(back, r) || same(x, r) {
		t.Errorf("X by Y and Y by X, twice, is %#v", back)
	}
	wantApart(t, inputs{})
}
