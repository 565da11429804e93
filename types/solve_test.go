package types_test

import (
	"slices"
	"strings"
	"testing"

	"pedigree/api"
	"pedigree/check"
	"pedigree/term"
	"pedigree/types"
	"pedigree/value"
)

func contained(some, all []string) bool {
	return !slices.ContainsFunc(some, func(name string) bool { return !slices.Contains(all, name) })
}

func valueOf(l []api.Bind, name string) api.Value {
	return l[slices.IndexFunc(l, func(b api.Bind) bool { return b.Var == name })].Val
}

// under is an atom with what is assigned in its variables' places.
func under(a api.Atom, l []api.Bind) api.Atom {
	var pairs []api.Pair
	for _, b := range l {
		pairs = append(pairs, api.Pair{Var: b.Var, Term: api.Term{Val: b.Val}})
	}
	return term.Apply(pairs, a)
}

// matches are the assignments, each once, under which an atom is a fact.
func matches(a api.Atom, facts []api.Fact) [][]api.Bind {
	var out [][]api.Bind
	for _, f := range facts {
		l, ok := term.Match(a, f)
		if ok && !slices.ContainsFunc(out, func(other []api.Bind) bool { return slices.Equal(other, l) }) {
			out = append(out, l)
		}
	}
	return out
}

// compare answers the assignments that come of l by a comparison: itself, one with a variable more, or none.
func compare(x api.Literal, l []api.Bind, known []string) [][]api.Bind {
	for _, sides := range [][2]api.Expr{{x.Left, x.Right}, {x.Right, x.Left}} {
		if name := sides[0].Term.Var; name != "" && !slices.Contains(known, name) {
			if w, ok := term.Eval(sides[1], l); ok {
				return [][]api.Bind{append(slices.Clone(l), api.Bind{Var: name, Val: w})}
			}
			return nil
		}
	}
	left, ok := term.Eval(x.Left, l)
	right, also := term.Eval(x.Right, l)
	if ok && also && value.Holds(x.Rel, left, right) {
		return [][]api.Bind{l}
	}
	return nil
}

// isReady: can a literal be worked with when these variables are known?
func isReady(x api.Literal, known []string) bool {
	if x.Kind == api.LPos || contained(term.LiteralVars(x), known) {
		return true
	}
	return x.Kind == api.LCmp && x.Rel == api.RelEq &&
		(x.Left.Term.Var != "" && contained(term.ExprVars(x.Right), known) || x.Right.Term.Var != "" && contained(term.ExprVars(x.Left), known))
}

func extend(x api.Literal, l []api.Bind, known []string, facts []api.Fact) [][]api.Bind {
	var out [][]api.Bind
	switch x.Kind {
	case api.LCmp:
		return compare(x, l, known)
	case api.LNot:
		if len(matches(under(x.Atom, l), facts)) == 0 {
			out = append(out, l)
		}
	case api.LPos:
		for _, more := range matches(under(x.Atom, l), facts) {
			out = append(out, slices.Concat(l, more))
		}
	}
	return out
}

// solutions of a body that limits all its variables.
func solutions(t *testing.T, body []api.Literal, facts []api.Fact) [][]api.Bind {
	t.Helper()
	found := [][]api.Bind{nil}
	var known []string
	for left := slices.Clone(body); len(left) > 0; {
		at := slices.IndexFunc(left, func(x api.Literal) bool { return isReady(x, known) })
		if at < 0 {
			t.Fatalf("no way through %s", brief(body))
		}
		var next [][]api.Bind
		for _, l := range found {
			next = append(next, extend(left[at], l, known, facts)...)
		}
		found, known = next, append(known, term.LiteralVars(left[at])...)
		left = slices.Delete(left, at, at+1)
	}
	return found
}

// fold is what an aggregate comes to over a group; false: nothing.
func fold(a api.Arg, group [][]api.Bind) (api.Value, bool) {
	if a.Agg == api.AggCount {
		return num(int64(len(group))), true
	}
	out := valueOf(group[0], a.Term.Var)
	for _, l := range group[1:] {
		w := valueOf(l, a.Term.Var)
		order := value.Compare(w, out)
		switch {
		case a.Agg == api.AggSum:
			out, _ = value.Arith(api.OpAdd, out, w)
		case a.Agg == api.AggMin && order < 0, a.Agg == api.AggMax && order > 0:
			out = w
		}
	}
	return out, a.Agg != api.AggSum || out.Kind == api.KNum
}

// plainOf are the values of a head's plain arguments.
func plainOf(r api.Rule, l []api.Bind) []api.Value {
	var out []api.Value
	for _, a := range r.Head {
		if a.Agg == api.AggNone {
			w, _ := term.Eval(ex(a.Term), l)
			out = append(out, w)
		}
	}
	return out
}

// gives are the facts that a rule gives, one a group.
func gives(t *testing.T, r api.Rule, facts []api.Fact) []api.Fact {
	t.Helper()
	groups := map[string][][]api.Bind{}
	for _, l := range solutions(t, r.Body, facts) {
		key := told(plainOf(r, l))
		groups[key] = append(groups[key], l)
	}
	var out []api.Fact
	for _, group := range groups {
		f := fact(r.Pred)
		plain := plainOf(r, group[0])
		for _, a := range r.Head {
			if a.Agg == api.AggNone {
				f.Args, plain = append(f.Args, plain[0]), plain[1:]
			} else if w, ok := fold(a, group); ok {
				f.Args = append(f.Args, w)
			}
		}
		if len(f.Args) == len(r.Head) {
			out = append(out, f)
		}
	}
	return out
}

// fitting are facts that fit the Sigs.
func fitting(d *dice, sigs []api.Sig) []api.Fact {
	var out []api.Fact
	for _, x := range sigs {
		for range d.below(5) {
			f := fact(x.Pred)
			for _, t := range x.Cols {
				numbers, texts := []api.Value{num(0), num(1), num(-3)}, []api.Value{text(""), text("a"), text(strings.Repeat("z", 150))}
				switch t {
				case api.TyNum:
					f.Args = append(f.Args, pick(d, numbers...))
				case api.TyText:
					f.Args = append(f.Args, pick(d, texts...))
				default:
					f.Args = append(f.Args, pick(d, append(numbers, texts...)...))
				}
			}
			out = append(out, f)
		}
	}
	return out
}

// P8.5: facts that fit a program's Sigs, and what its rules give over them, fit them.
func TestGivenFactsFit(t *testing.T) {
	d := dice(5)
	given := 0
	for tried := 0; tried < 1500; {
		l := anyRules(&d)
		sigs, _, err := types.Infer(program(l...))
		if err != api.OK {
			continue
		}
		tried++
		facts := fitting(&d, sigs)
		if !types.Fits(facts, sigs) {
			t.Fatalf("Fits(%s, %s) = false", brief(facts), showSigs(sigs))
		}
		for _, r := range l {
			more := gives(t, r, facts)
			given += len(more)
			if !types.Fits(more, sigs) {
				t.Fatalf("%s gives over %s what does not fit %s: %s", brief(r), brief(facts), showSigs(sigs), brief(more))
			}
		}
	}
	if given < 3000 {
		t.Errorf("only %d facts are given", given)
	}
}

// operationsOf are an expression's operations, the inner ones too.
func operationsOf(e api.Expr) []api.Expr {
	if e.Op == api.OpTerm {
		return nil
	}
	out := []api.Expr{e}
	for _, kid := range e.Kids {
		out = append(out, operationsOf(kid)...)
	}
	return out
}

// outcomes count what value.Arith gives, and why it gives nothing.
type outcomes struct{ some, zero, long int }

// wantArith asks whether an operation has a value, or a reason to have none.
func (o *outcomes) wantArith(t *testing.T, e api.Expr, l []api.Bind) {
	t.Helper()
	var kids []api.Value
	for _, kid := range e.Kids {
		w, ok := term.Eval(kid, l)
		if !ok {
			return
		}
		kids = append(kids, w)
	}
	_, ok := value.Arith(e.Op, kids...)
	switch {
	case ok:
		o.some++
	case (e.Op == api.OpDiv || e.Op == api.OpMod) && kids[1] == num(0):
		o.zero++
	case e.Op == api.OpCat && kids[0].Kind == api.KText && kids[1].Kind == api.KText && len(kids[0].Text)+len(kids[1].Text) > 200:
		o.long++
	default:
		t.Fatalf("%s has no value under %s", brief(e), brief(l))
	}
}

// wantSubset looks at all operations of a rule under the solutions of some of its literals.
func (o *outcomes) wantSubset(t *testing.T, r api.Rule, some []api.Literal, facts []api.Fact) {
	t.Helper()
	known := check.Limited(some)
	if !contained(term.RuleVars(api.Rule{Body: some}), known) {
		return
	}
	var inside []api.Expr
	for _, x := range r.Body {
		for _, e := range slices.Concat(operationsOf(x.Left), operationsOf(x.Right)) {
			if contained(term.ExprVars(e), known) {
				inside = append(inside, e)
			}
		}
	}
	if len(inside) == 0 {
		return
	}
	for _, l := range solutions(t, some, facts) {
		for _, e := range inside {
			o.wantArith(t, e, l)
		}
	}
}

// P8.5: where all fits, an operation has a value under every solution of some literals, but for a division by 0 and a text that is too long.
func TestOperationsUnderSolutions(t *testing.T) {
	d := dice(6)
	var o outcomes
	for tried := 0; tried < 1200; {
		l := anyRules(&d)
		sigs, _, err := types.Infer(program(l...))
		if err != api.OK {
			continue
		}
		tried++
		facts := fitting(&d, sigs)
		for _, r := range l {
			if len(r.Body) > 7 {
				continue
			}
			for set := range 1 << len(r.Body) {
				var some []api.Literal
				for i, x := range r.Body {
					if set>>i&1 == 1 {
						some = append(some, x)
					}
				}
				o.wantSubset(t, r, some, facts)
			}
		}
	}
	if o.some < 5000 || o.zero < 20 || o.long < 20 {
		t.Errorf("outcomes: %+v", o)
	}
}
