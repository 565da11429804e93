package check_test

import (
	"slices"
	"testing"

	"pedigree/api"
	"pedigree/check"
	"pedigree/term"
	"pedigree/value"
)

// dice answers numbers below n, the same ones in every run.
type dice uint64

func (d *dice) below(n int) int {
	*d = *d*6364136223846793005 + 1442695040888963407
	return int(uint64(*d)>>33) % n
}

func pick[T any](d *dice, l ...T) T { return l[d.below(len(l))] }

// some are up to most things.
func some[T any](d *dice, most int, one func(*dice) T) []T {
	var out []T
	for range d.below(most + 1) {
		out = append(out, one(d))
	}
	return out
}

// mixed answers the list in any order.
func mixed[T any](d *dice, l []T) []T {
	out := slices.Clone(l)
	for i := range out {
		j := d.below(i + 1)
		out[i], out[j] = out[j], out[i]
	}
	return out
}

// fewer answers the list without some of its elements.
func fewer[T any](d *dice, l []T) []T {
	return slices.DeleteFunc(slices.Clone(l), func(T) bool { return d.below(3) == 0 })
}

func anyVar(d *dice) api.Term { return v(pick(d, "A", "B", "C", "D", "E", "F", "G", "H")) }

func anyNamed(d *dice) api.Term {
	if d.below(4) > 0 {
		return anyVar(d)
	}
	return pick(d, n(0), n(1), n(2), s("a"), s(""))
}

func anyTerm(d *dice) api.Term {
	if d.below(6) == 0 {
		return v("_")
	}
	return anyNamed(d)
}

func anyExpr(d *dice) api.Expr {
	switch d.below(4) {
	case 0:
		return op(pick(d, api.OpAdd, api.OpSub, api.OpMul, api.OpDiv, api.OpMod, api.OpCat), anyExpr(d), ex(anyNamed(d)))
	case 1:
		return op(pick(d, api.OpNeg, api.OpLen, api.OpChars, api.OpBack), ex(anyNamed(d)))
	}
	return ex(anyNamed(d))
}

func anyName(d *dice) string { return pick(d, "p", "q", "r", "s", "t") }

// anyLiteral has mostly equations with a variable by itself on one side.
func anyLiteral(d *dice) api.Literal {
	switch d.below(12) {
	case 0:
		return pos(anyName(d), some(d, 2, anyTerm)...)
	case 1:
		return not(anyName(d), some(d, 2, anyTerm)...)
	case 2:
		return cmp(anyExpr(d), api.Rel(1+d.below(6)), anyExpr(d))
	case 3, 4, 5, 6:
		return eq(anyExpr(d), ex(anyVar(d)))
	}
	return eq(ex(anyVar(d)), anyExpr(d))
}

func anyBody(d *dice) []api.Literal { return some(d, pick(d, 2, 5, 9, 16), anyLiteral) }

// variables of a thing's terms, each once: written without package term's own.
func variables(l ...api.Term) []string {
	var out []string
	for _, x := range l {
		if x.Var != "" && x.Var != "_" && !slices.Contains(out, x.Var) {
			out = append(out, x.Var)
		}
	}
	return out
}

func termsOf(e api.Expr) []api.Term {
	out := []api.Term{e.Term}
	for _, kid := range e.Kids {
		out = append(out, termsOf(kid)...)
	}
	return out
}

// loneOf: the variable that an expression is, if it is a lone one, and its variables.
func loneOf(e api.Expr) (string, []string) {
	if e.Op != api.OpTerm || len(e.Kids) > 0 || e.Term.Var == "_" {
		return "", variables(termsOf(e)...)
	}
	return e.Term.Var, variables(e.Term)
}

func contained(some, all []string) bool {
	return !slices.ContainsFunc(some, func(name string) bool { return !slices.Contains(all, name) })
}

// gives answers the variable that an equation gives when those of found have been found; "": none.
func gives(l api.Literal, found []string) string {
	if l.Kind != api.LCmp || l.Rel != api.RelEq {
		return ""
	}
	left, inLeft := loneOf(l.Left)
	right, inRight := loneOf(l.Right)
	if left != "" && !slices.Contains(found, left) && contained(inRight, found) {
		return left
	}
	if right != "" && !slices.Contains(found, right) && contained(inLeft, found) {
		return right
	}
	return ""
}

// slowLimited goes through the whole body over and over, as P7.2 says it.
func slowLimited(body []api.Literal) []string {
	var all []api.Term
	for _, l := range body {
		if l.Kind == api.LPos {
			all = append(all, l.Atom.Args...)
		}
	}
	found := variables(all...)
	for {
		ahead := len(found)
		for _, l := range body {
			if name := gives(l, found); name != "" {
				found = append(found, name)
			}
		}
		if len(found) == ahead {
			return found
		}
	}
}

// P7.2, P7.8: any bodies: as the slow way says; each variable for a reason that stands ahead of it; nothing is left; and the body's order makes no difference to which they are.
func TestLimitedLaws(t *testing.T) {
	d := dice(2)
	ways := 0
	for range 30000 {
		body := anyBody(&d)
		got := check.Limited(body)
		if want := slowLimited(body); !slices.Equal(got, want) {
			t.Fatalf("Limited(%s) = %v, want %v", brief(body), got, want)
		}
		for i, name := range got {
			inAtom := func(l api.Literal) bool { return l.Kind == api.LPos && slices.Contains(l.Atom.Args, v(name)) }
			isGiven := func(l api.Literal) bool { return gives(l, got[:i]) == name }
			if !slices.ContainsFunc(body, inAtom) && !slices.ContainsFunc(body, isGiven) {
				t.Fatalf("Limited(%s) = %v: no reason for %s", brief(body), got, name)
			}
		}
		for _, l := range body {
			if name := gives(l, got); name != "" {
				t.Fatalf("Limited(%s) = %v, without %s", brief(body), got, name)
			}
		}
		other := check.Limited(mixed(&d, body))
		if !slices.Equal(got, other) {
			ways++
		}
		if slices.Sort(got); !slices.Equal(got, slices.Sorted(slices.Values(other))) {
			t.Fatalf("Limited(%s) = %v, in another order %v", brief(body), got, other)
		}
	}
	if ways < 1000 {
		t.Errorf("only %d bodies are found otherwise in another order", ways)
	}
}

// assignments hands on every assignment of the variables over some values.
func assignments(names []string, hand func([]api.Bind)) {
	values := []api.Value{num(0), num(1), num(2), text(""), text("a")}
	l := make([]api.Bind, len(names))
	var fill func(int)
	fill = func(at int) {
		if at == len(l) {
			hand(l)
			return
		}
		for _, w := range values {
			l[at] = api.Bind{Var: names[at], Val: w}
			fill(at + 1)
		}
	}
	fill(0)
}

// equationsHold: do all equations of the body hold?
func equationsHold(body []api.Literal, l []api.Bind) bool {
	return !slices.ContainsFunc(body, func(x api.Literal) bool {
		if x.Kind != api.LCmp || x.Rel != api.RelEq {
			return false
		}
		left, ok := term.Eval(x.Left, l)
		right, also := term.Eval(x.Right, l)
		return !ok || !also || !value.Holds(api.RelEq, left, right)
	})
}

// P7.8: the values of the atoms' variables and the equations leave nothing open of a rule that may be used.
func TestNothingIsOpen(t *testing.T) {
	d := dice(3)
	held := 0
	for tried := 0; tried < 3000; {
		r := rule("p", head(some(&d, 2, anyNamed)...), some(&d, 4, anyLiteral)...)
		names := term.RuleVars(r)
		if check.Rule(r) != api.OK || len(names) == 0 || len(names) > 5 {
			continue
		}
		tried++
		var inAtoms []api.Term
		for _, l := range r.Body {
			if l.Kind == api.LPos {
				inAtoms = append(inAtoms, l.Atom.Args...)
			}
		}
		fixed := variables(inAtoms...)
		seen := map[string]string{}
		assignments(names, func(l []api.Bind) {
			if !equationsHold(r.Body, l) {
				return
			}
			held++
			key := told(slices.DeleteFunc(slices.Clone(l), func(b api.Bind) bool { return !slices.Contains(fixed, b.Var) }))
			if other, again := seen[key]; again && other != told(l) {
				t.Fatalf("%s is left open: %s and %s", brief(r), other, told(l))
			}
			seen[key] = told(l)
		})
	}
	if held < 8000 {
		t.Errorf("only %d assignments hold", held)
	}
}

// arity of the names, the same ones nearly always.
func arityOf(d *dice, name string) int {
	if d.below(150) == 0 {
		return d.below(4)
	}
	return len(name) % 3
}

func namesOf() []string { return []string{"p", "qq", "rrr", "ssss", "ttttt"} }

func anyAtom(d *dice, one func(*dice) api.Term) api.Atom {
	a := atom(pick(d, namesOf()...))
	if d.below(80) == 0 {
		a.Pred = pick(d, "q_x", "X", longest("n", 25))
	}
	for range arityOf(d, a.Pred) {
		a.Args = append(a.Args, one(d))
	}
	return a
}

// anyRule mostly may be used.
func anyRule(d *dice) api.Rule {
	x := func(d *dice) api.Term { return pick(d, v("X"), v("Y"), n(1)) }
	a := anyAtom(d, x)
	r := rule(a.Pred, head(a.Args...), pos("ssss", v("X")), pos("ssss", v("Y")))
	for range d.below(3) {
		r.Body = append(r.Body, api.Literal{Kind: pick(d, api.LPos, api.LNot), Atom: anyAtom(d, x)})
	}
	switch d.below(40) {
	case 0:
		r.Body = append(r.Body, anyLiteral(d))
	case 1:
		r.Body = append(r.Body, not("ssss", v("Z")))
	case 2:
		r.Head = append(r.Head, api.Arg{Agg: api.AggSum, Term: x(d)})
	case 3:
		r.Body = slices.Repeat(r.Body, 4)
	}
	return r
}

func anyFact(d *dice) api.Fact {
	a := anyAtom(d, func(d *dice) api.Term { return pick(d, n(1), n(2), s("a")) })
	f := fact(a.Pred)
	for _, x := range a.Args {
		f.Args = append(f.Args, x.Val)
	}
	if d.below(60) == 0 {
		f.Args = append(f.Args, pick(d, api.Value{}, num(1)))
	}
	return f
}

func anyInput(d *dice) input {
	return input{some(d, 5, anyRule), some(d, 5, anyFact), anyAtom(d, func(d *dice) api.Term { return pick(d, v("X"), v("_"), n(1)) })}
}

// P7.8: the order of rules and facts, and less of them.
func TestJobLaws(t *testing.T) {
	d := dice(4)
	good := 0
	for range 20000 {
		x := anyInput(&d)
		code := check.Job(x.Rules, x.Facts)
		if other := check.Job(mixed(&d, x.Rules), mixed(&d, x.Facts)); (code == api.OK) != (other == api.OK) {
			t.Fatalf("Job(%s) = %d, in another order %d", brief(x), code, other)
		}
		if double := check.Job(slices.Concat(x.Rules, x.Rules), slices.Concat(x.Facts, x.Facts)); double != code {
			t.Fatalf("Job(%s) = %d, of all of it twice %d", brief(x), code, double)
		}
		if code == api.OK {
			good++
			if less := check.Job(fewer(&d, x.Rules), fewer(&d, x.Facts)); less != api.OK {
				t.Fatalf("Job(%s) = 0, of less %d", brief(x), less)
			}
		}
	}
	if good < 5000 || good > 18000 {
		t.Errorf("of 20000 jobs %d have no error", good)
	}
}

// slowPreds are all predicates, in order, as often as they stand there.
func slowPreds(l ...api.Rule) []api.Pred {
	var out []api.Pred
	for _, r := range l {
		out = append(out, pred(r.Pred, len(r.Head)))
		for _, x := range r.Body {
			if x.Kind == api.LPos || x.Kind == api.LNot {
				out = append(out, pred(x.Atom.Pred, len(x.Atom.Args)))
			}
		}
	}
	return out
}

// twoArities: does one name stand there with two numbers of columns?
func twoArities(l ...api.Pred) bool {
	for i, a := range l {
		if slices.ContainsFunc(l[:i], func(b api.Pred) bool { return a.Name == b.Name && a.Arity != b.Arity }) {
			return true
		}
	}
	return false
}

// factMayBe leans on package term: a fact may be just if a rule that says it may be.
func factMayBe(f api.Fact) bool {
	r := rule(f.Pred, nil)
	for _, w := range f.Args {
		r.Head = append(r.Head, api.Arg{Term: api.Term{Val: w}})
	}
	return term.CheckRule(r) == api.OK
}

func large(l []api.Pred, names []string) bool {
	for _, p := range l {
		names = append(names, p.Name)
		if p.Arity > 8 {
			return true
		}
	}
	return slices.ContainsFunc(names, func(name string) bool { return len(name) > 24 })
}

func reserved(l []api.Pred) bool {
	return slices.ContainsFunc(l, func(p api.Pred) bool { return len(p.Name) > 1 && p.Name[:2] == "q_" })
}

func (x input) slowRule(i int) api.Errno {
	r := x.Rules[i]
	switch {
	case term.CheckRule(r) != api.OK:
		return api.ErrTerm
	case len(r.Body) > 12 || large(slowPreds(r), term.RuleVars(r)):
		return api.ErrSize
	case reserved(slowPreds(r)):
		return api.ErrReserved
	case !contained(term.RuleVars(r), slowLimited(r.Body)):
		return api.ErrSafe
	}
	return api.OK
}

// slow is what P7.7 says, for no more rules and facts than may be.
func (x input) slow() api.Refusal {
	for i := range x.Rules {
		if code := x.slowRule(i); code != api.OK {
			return inProgram(code, i)
		}
	}
	for i := range x.Rules {
		if twoArities(slowPreds(x.Rules[:i+1]...)...) {
			return inProgram(api.ErrArity, i)
		}
	}
	all := slowPreds(x.Rules...)
	for i, f := range x.Facts {
		p := pred(f.Pred, len(f.Args))
		all = append(all, p)
		switch {
		case !factMayBe(f):
			return inFacts(api.ErrValue, i)
		case large([]api.Pred{p}, nil):
			return inFacts(api.ErrSize, i)
		case reserved([]api.Pred{p}):
			return inFacts(api.ErrReserved, i)
		case twoArities(all...):
			return inFacts(api.ErrArity, i)
		}
	}
	p := []api.Pred{pred(x.Query.Pred, len(x.Query.Args))}
	switch {
	case term.CheckAtom(x.Query) != api.OK:
		return inQuery(api.ErrTerm)
	case large(p, term.AtomVars(x.Query)):
		return inQuery(api.ErrSize)
	case reserved(p):
		return inQuery(api.ErrReserved)
	case twoArities(append(all, p...)...):
		return inQuery(api.ErrArity)
	}
	return api.Refusal{}
}

// wantInputLaws asks what P7.8 says of one input.
func wantInputLaws(t *testing.T, x input) api.Refusal {
	t.Helper()
	got := x.ask()
	if want := x.slow(); got != want {
		t.Fatalf("Input(%s) = %v, want %v", brief(x), got, want)
	}
	if code := check.Job(x.Rules, x.Facts); got == (api.Refusal{}) && code != api.OK {
		t.Fatalf("Job(%s) = %d, though the input is not refused", brief(x), code)
	}
	if got.Part != api.PartProgram || got.Code == api.ErrArity {
		return got
	}
	ahead, alone := x, x
	ahead.Rules, alone.Rules = x.Rules[:got.At], x.Rules[got.At:got.At+1]
	if other := ahead.ask(); other.Part == api.PartProgram && other.Code != api.ErrArity {
		t.Fatalf("the rules ahead of %d in %s are refused: %v", got.At, brief(x), other)
	}
	if other := alone.ask(); other != inProgram(got.Code, 0) {
		t.Fatalf("the rule %d of %s by itself: %v, not %v", got.At, brief(x), other, got)
	}
	return got
}

// P7.7, P7.8: any inputs, nearly good ones.
func TestInputLaws(t *testing.T) {
	d := dice(5)
	count := map[api.Refusal]int{}
	for range 30000 {
		got := wantInputLaws(t, anyInput(&d))
		got.At = 0
		count[got]++
	}
	for _, part := range []api.Refusal{{}, inProgram(api.ErrTerm, 0), inProgram(api.ErrSize, 0), inProgram(api.ErrReserved, 0), inProgram(api.ErrSafe, 0), inProgram(api.ErrArity, 0),
		inFacts(api.ErrValue, 0), inFacts(api.ErrSize, 0), inFacts(api.ErrReserved, 0), inFacts(api.ErrArity, 0), inQuery(api.ErrTerm), inQuery(api.ErrSize), inQuery(api.ErrReserved), inQuery(api.ErrArity)} {
		if count[part] < 20 {
			t.Errorf("only %d inputs are refused by %v", count[part], part)
		}
	}
}
