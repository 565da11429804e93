package depend

import "pedigree/api"

// copyRule takes any struct: term.ApplyRule copies a rule as it may be alone.
func copyRule(r api.Rule) api.Rule {
	return api.Rule{Pred: r.Pred, Head: append([]api.Arg(nil), r.Head...), Body: each(r.Body, copyLiteral)}
}

func copyLiteral(l api.Literal) api.Literal {
	l.Atom.Args = append([]api.Term(nil), l.Atom.Args...)
	l.Left, l.Right = copyExpr(l.Left), copyExpr(l.Right)
	return l
}

func copyExpr(e api.Expr) api.Expr {
	e.Kids = each(e.Kids, copyExpr)
	return e
}

func each[T any](l []T, copyOf func(T) T) []T {
	var out []T
	for _, x := range l {
		out = append(out, copyOf(x))
	}
	return out
}
