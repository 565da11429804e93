package term_test

import (
	"reflect"
	"slices"
	"testing"

	"pedigree/api"
	"pedigree/term"
)

// dice answers numbers below n, the same ones in every run.
type dice uint64

func (d *dice) below(n int) int {
	*d = *d*6364136223846793005 + 1442695040888963407
	return int(uint64(*d)>>33) % n
}

func pick[T any](d *dice, l []T) T { return l[d.below(len(l))] }

func anyTerm(d *dice) api.Term {
	return pick(d, []api.Term{v("X"), v("Y"), v("Z"), v("V0"), v("V1"), v("_"), n(1), n(2), s("a")})
}

// namedTerm is no blank.
func namedTerm(d *dice) api.Term {
	if x := anyTerm(d); x.Var != "_" {
		return x
	}
	return v("X")
}

func anyAtom(d *dice, columns int) api.Atom {
	a := api.Atom{Pred: pick(d, []string{"p", "p", "q"})}
	for range columns {
		a.Args = append(a.Args, anyTerm(d))
	}
	return a
}

func anyExpr(d *dice, depth int) api.Expr {
	if depth <= 1 || d.below(2) == 0 {
		return ex(namedTerm(d))
	}
	o := pick(d, []api.Op{api.OpNeg, api.OpAdd, api.OpCat, api.OpLen})
	if o == api.OpNeg || o == api.OpLen {
		return op(o, anyExpr(d, depth-1))
	}
	return op(o, anyExpr(d, depth-1), anyExpr(d, depth-1))
}

func anyLiteral(d *dice) api.Literal {
	if d.below(2) == 0 {
		return cmp(anyExpr(d, 3), api.Rel(1+d.below(6)), anyExpr(d, 3))
	}
	return api.Literal{Kind: pick(d, []api.LitKind{api.LPos, api.LNot}), Atom: anyAtom(d, d.below(4))}
}

func anyRule(d *dice) api.Rule {
	r := api.Rule{Pred: "p"}
	for range d.below(4) {
		arg := api.Arg{Term: namedTerm(d)}
		if d.below(4) == 0 {
			arg.Agg = pick(d, []api.Agg{api.AggCount, api.AggSum})
		}
		if arg.Agg == api.AggCount {
			arg.Term = api.Term{}
		}
		r.Head = append(r.Head, arg) // a sum may have a value: not every rule is one that may be
	}
	for range d.below(4) {
		r.Body = append(r.Body, anyLiteral(d))
	}
	return r
}

// termsOf answers the terms of a thing: its fields have them in just the order that the chapter says.
func termsOf(x reflect.Value) []api.Term {
	if t, ok := x.Interface().(api.Term); ok {
		return []api.Term{t}
	}
	var out []api.Term
	switch x.Kind() {
	case reflect.Struct:
		for i := range x.NumField() {
			out = append(out, termsOf(x.Field(i))...)
		}
	case reflect.Slice:
		for i := range x.Len() {
			out = append(out, termsOf(x.Index(i))...)
		}
	}
	return out
}

func terms(thing any) []api.Term { return termsOf(reflect.ValueOf(thing)) }

func slowVars(thing any) []string {
	var out []string
	for _, x := range terms(thing) {
		if x.Var != "" && x.Var != "_" && !slices.Contains(out, x.Var) {
			out = append(out, x.Var)
		}
	}
	return out
}

func slowPut(l []api.Pair, x api.Term) api.Term {
	for _, p := range l {
		if p.Var == x.Var && x.Var != "" && x.Var != "_" {
			return p.Term
		}
	}
	return x
}

func anyPairs(d *dice) []api.Pair {
	var out []api.Pair
	for range d.below(5) {
		out = append(out, pair(pick(d, []string{"X", "Y", "Z", "V0", "V1", "_", "", "W"}), anyTerm(d)))
	}
	return out
}

// P4.2, P4.4: the variables and the terms of any things, held against slow walks by the fields.
func TestTermsOfThings(t *testing.T) {
	d := dice(4)
	for range 20000 {
		r := anyRule(&d)
		wantNames(t, "RuleVars", term.RuleVars(r), slowVars(r)...)
		for _, l := range r.Body {
			wantNames(t, "LiteralVars", term.LiteralVars(l), slowVars(l)...)
			wantNames(t, "AtomVars", term.AtomVars(l.Atom), slowVars(l.Atom)...)
			wantNames(t, "ExprVars", term.ExprVars(l.Left), slowVars(l.Left)...)
		}
		l := anyPairs(&d)
		got, e := term.ApplyRule(l, r)
		if e != api.OK {
			continue
		}
		want := terms(r)
		for i := range want {
			want[i] = slowPut(l, want[i])
		}
		if !slices.Equal(terms(got), want) {
			t.Fatalf("ApplyRule(%#v, %#v) has the terms %#v, want %#v", l, r, terms(got), want)
		}
		if shape(got) != shape(r) {
			t.Fatalf("ApplyRule(%#v, %#v) = %#v", l, r, got)
		}
	}
}

// P4.4: a rule comes out just where one that may be comes in and comes out, told by the head's arguments and the sides of comparisons, where a blank or a value may not be.
func TestApplyRuleRefuses(t *testing.T) {
	d := dice(5)
	for range 20000 {
		r, l := anyRule(&d), anyPairs(&d)
		ok := true
		for _, arg := range r.Head {
			after := slowPut(l, arg.Term)
			if arg.Agg == api.AggSum && (arg.Term.Var == "" || after.Var == "") || after.Var == "_" {
				ok = false
			}
		}
		for _, lit := range r.Body {
			for _, x := range append(terms(lit.Left), terms(lit.Right)...) {
				ok = ok && slowPut(l, x).Var != "_"
			}
		}
		if _, e := term.ApplyRule(l, r); e != errno(ok) {
			t.Fatalf("ApplyRule(%#v, %#v) = %d, want %d", l, r, e, errno(ok))
		}
	}
}

// assignments are all assignments of the variables.
func assignments(vars []string) [][]api.Bind {
	out := [][]api.Bind{nil}
	for _, name := range vars {
		var next [][]api.Bind
		for _, l := range out {
			for _, w := range []api.Value{num(1), num(2), num(3), text("a")} {
				next = append(next, append(slices.Clone(l), bind(name, w)))
			}
		}
		out = next
	}
	return out
}

// under answers what a term is under an assignment; a blank is the zero Value.
func under(l []api.Bind, x api.Term) api.Value {
	for _, b := range l {
		if b.Var == x.Var {
			return b.Val
		}
	}
	return x.Val
}

func isFact(l []api.Bind, a api.Atom, f api.Fact) bool {
	for i, x := range a.Args {
		if x.Var != "_" && under(l, x) != f.Args[i] {
			return false
		}
	}
	return a.Pred == f.Pred
}

// P4.5, P4.9: what Match finds is the assignment, and where it finds nothing, there is none.
func TestMatchFindsWhatThereIs(t *testing.T) {
	d := dice(6)
	for range 20000 {
		a := anyAtom(&d, 1+d.below(4))
		f := api.Fact{Pred: pick(&d, []string{"p", "q"})}
		for range a.Args {
			f.Args = append(f.Args, pick(&d, []api.Value{num(1), num(2), text("a")}))
		}
		found := slices.DeleteFunc(assignments(slowVars(a)), func(l []api.Bind) bool { return !isFact(l, a, f) })
		if len(found) == 0 {
			wantNoMatch(t, a, f)
			continue
		}
		if len(found) > 1 {
			t.Fatalf("%#v is %#v in %d ways", a, f, len(found))
		}
		wantMatch(t, a, f, found[0]...)
	}
}

// slowUnify is P4.6 as it stands, each step with Apply and new pairs.
func slowUnify(a, b api.Atom) ([]api.Pair, bool) {
	if a.Pred != b.Pred || len(a.Args) != len(b.Args) {
		return nil, false
	}
	var l []api.Pair
	for i := range a.Args {
		x, y := slowPut(l, a.Args[i]), slowPut(l, b.Args[i])
		if a.Args[i].Var == "_" || b.Args[i].Var == "_" || x == y {
			continue
		}
		if x.Var == "" {
			x, y = y, x
		}
		if x.Var == "" {
			return nil, false
		}
		one := []api.Pair{pair(x.Var, y)}
		var next []api.Pair
		for _, p := range l {
			next = append(next, pair(p.Var, slowPut(one, p.Term)))
		}
		l = append(next, one...)
	}
	return l, true
}

// P4.6, P4.9: the pairs that the chapter says make both atoms one, twice changes nothing more, and every assignment that makes them one goes with them.
func TestUnifyIsMostGeneral(t *testing.T) {
	d := dice(7)
	for range 5000 {
		columns := 1 + d.below(5)
		a, b := anyAtom(&d, columns), anyAtom(&d, columns)
		want, ok := slowUnify(a, b)
		if !ok {
			wantNoUnify(t, a, b)
		} else {
			wantUnify(t, a, b, want...)
		}
		l, _ := term.Unify(a, b)
		x, y := term.Apply(l, a), term.Apply(l, b)
		for i := range x.Args {
			if ok && x.Args[i].Var != "_" && y.Args[i].Var != "_" && x.Args[i] != y.Args[i] {
				t.Fatalf("Unify(%#v, %#v) = %#v does not make them one", a, b, l)
			}
		}
		wantApply(t, l, x, x)
		wantApply(t, l, y, y)
		checkGeneral(t, a, b, l, ok)
	}
}

func checkGeneral(t *testing.T, a, b api.Atom, l []api.Pair, ok bool) {
	t.Helper()
	some := false
	for _, m := range assignments(slowVars(atom("p", append(slices.Clone(a.Args), b.Args...)...))) {
		one := a.Pred == b.Pred
		for i := range a.Args {
			one = one && (a.Args[i].Var == "_" || b.Args[i].Var == "_" || under(m, a.Args[i]) == under(m, b.Args[i]))
		}
		some = some || one
		for _, p := range l {
			if one && under(m, v(p.Var)) != under(m, p.Term) {
				t.Fatalf("Unify(%#v, %#v) = %#v, but %#v makes them one", a, b, l, m)
			}
		}
	}
	if some != ok {
		t.Fatalf("Unify(%#v, %#v) is %v", a, b, ok)
	}
}

// renamings are all pairs that replace the variables by some of others, unlike ones by unlike ones.
func renamings(vars, others []string) [][]api.Pair {
	if len(vars) == 0 {
		return [][]api.Pair{nil}
	}
	var out [][]api.Pair
	for i, other := range others {
		rest := slices.Delete(slices.Clone(others), i, i+1)
		for _, l := range renamings(vars[1:], rest) {
			out = append(out, append([]api.Pair{pair(vars[0], v(other))}, l...))
		}
	}
	return out
}

// P4.8, P4.9: Alike just if one becomes the other by a renaming; then, and only then, Canon is the same.
func TestAlikeIsARenaming(t *testing.T) {
	d := dice(8)
	counts := [2]int{}
	for range 5000 {
		a := anyRule(&d)
		b := anyRule(&d)
		if x, e := term.ApplyRule([]api.Pair{pair("X", v(pick(&d, []string{"X", "Y", "W"}))), pair("Y", v(pick(&d, []string{"X", "Z"})))}, a); e == api.OK {
			b = x
		}
		want := false
		for _, l := range renamings(slowVars(a), slowVars(b)) {
			x, e := term.ApplyRule(l, a)
			want = want || e == api.OK && same(x, b)
		}
		wantAlike(t, a, b, want)
		x, e := term.Canon(a)
		y, f := term.Canon(b)
		if (e == api.OK && f == api.OK && same(x, y)) != want || e != term.CheckRule(a) {
			t.Fatalf("Canon of %#v and of %#v: %#v, %d and %#v, %d", a, b, x, e, y, f)
		}
		if want {
			counts[1]++
		} else {
			counts[0]++
		}
	}
	if counts[0] < 500 || counts[1] < 500 {
		t.Errorf("%d pairs of rules are Alike, %d not: the test says little", counts[1], counts[0])
	}
}
