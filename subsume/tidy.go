package subsume

import (
	"slices"

	"pedigree/api"
	"pedigree/term"
	"pedigree/value"
)

// repeats says of each thing of a list whether it is the same as one ahead of it.
func repeats[T any](l []T, same func(ahead, thing T) bool) []bool {
	out := make([]bool, len(l))
	for i, thing := range l {
		out[i] = slices.ContainsFunc(l[:i], func(ahead T) bool { return same(ahead, thing) })
	}
	return out
}

// neverHolds: does the body of a rule of use have no solution, whatever the facts are?
func neverHolds(body []api.Literal) bool {
	never := func(l api.Literal) bool {
		holds, known := settled(l)
		return known && !holds
	}
	// A comparison's atom is the zero one, which no atom is: so of two kinds with the same atom one is a not.
	denied := func(ahead, l api.Literal) bool { return ahead.Kind != l.Kind && sameAtom(ahead.Atom, l.Atom) }
	return slices.ContainsFunc(body, never) || slices.Contains(repeats(body, denied), true)
}

// settled tells whether a literal always holds or never does; known is false, where it does neither.
func settled(l api.Literal) (holds, known bool) {
	if l.Kind != api.LCmp {
		return false, false
	}
	if isVariable(l.Left) && sameExpr(l.Left, l.Right) {
		some := api.Value{Kind: api.KNum} // as this one every value compares with itself
		return value.Holds(l.Rel, some, some), true
	}
	if len(term.LiteralVars(l)) > 0 {
		return false, false
	}
	left, _ := term.Eval(l.Left, nil)
	right, _ := term.Eval(l.Right, nil)
	return value.Holds(l.Rel, left, right), true // a side without a value is no value, and compares with nothing
}

func isVariable(e api.Expr) bool { return e.Op == api.OpTerm && e.Term.Var != "" }

func sameLiteral(a, b api.Literal) bool {
	return a.Kind == b.Kind && sameAtom(a.Atom, b.Atom) && a.Rel == b.Rel && sameExpr(a.Left, b.Left) && sameExpr(a.Right, b.Right)
}

func sameAtom(a, b api.Atom) bool { return a.Pred == b.Pred && slices.Equal(a.Args, b.Args) }

func sameExpr(a, b api.Expr) bool {
	return a.Op == b.Op && a.Term == b.Term && slices.EqualFunc(a.Kids, b.Kids, sameExpr)
}
