package term

import (
	"slices"

	"pedigree/api"
	"pedigree/value"
)

// Match: what the atom's variables are, so that it is the fact. (P4.5)
func Match(a api.Atom, f api.Fact) ([]api.Bind, bool) {
	if a.Pred != f.Pred || len(a.Args) != len(f.Args) || !isAtom(a) {
		return nil, false
	}
	var out []api.Bind
	for i, t := range a.Args {
		v := f.Args[i]
		if value.Check(v) != api.OK {
			return nil, false
		}
		if t.Var == blank {
			continue
		}
		known, ok := valueOf(t, out)
		if !ok {
			out = append(out, api.Bind{Var: t.Var, Val: v})
		} else if known != v {
			return nil, false
		}
	}
	return out, true
}

// valueOf answers what a term that is no blank is under l; false: it is a variable, and l says no value of it.
func valueOf(t api.Term, l []api.Bind) (api.Value, bool) {
	if t.Var == "" {
		return t.Val, true
	}
	i := slices.IndexFunc(l, func(b api.Bind) bool { return b.Var == t.Var })
	if i < 0 || value.Check(l[i].Val) != api.OK {
		return api.Value{}, false
	}
	return l[i].Val, true
}

// Unify: a most general substitution that makes the atoms one. (P4.6)
func Unify(a, b api.Atom) ([]api.Pair, bool) {
	if a.Pred != b.Pred || len(a.Args) != len(b.Args) || !isAtom(a) || !isAtom(b) {
		return nil, false
	}
	var s []api.Pair
	for i := range a.Args {
		if a.Args[i].Var == blank || b.Args[i].Var == blank {
			continue
		}
		x, y := resolve(s, a.Args[i]), resolve(s, b.Args[i])
		switch {
		case x == y:
		case x.Var != "":
			s = bind(s, x.Var, y)
		case y.Var != "":
			s = bind(s, y.Var, x)
		default:
			return nil, false
		}
	}
	return s, true
}

// resolve answers what stands for t under pairs of Unify: none of their terms is the variable of another pair, so one look is enough.
func resolve(s []api.Pair, t api.Term) api.Term {
	for _, pair := range s {
		if pair.Var == t.Var {
			return pair.Term
		}
	}
	return t
}

// bind puts t in the variable's place, in the pairs that there are too.
func bind(s []api.Pair, name string, t api.Term) []api.Pair {
	for i := range s {
		if s[i].Term.Var == name {
			s[i].Term = t
		}
	}
	return append(s, api.Pair{Var: name, Term: t})
}

// Eval: the expression's value. (P4.7)
func Eval(e api.Expr, l []api.Bind) (api.Value, bool) {
	if !isExpr(e, api.MaxDepth) {
		return api.Value{}, false
	}
	return work(e, l)
}

// work answers the value of an expression as it may be.
func work(e api.Expr, l []api.Bind) (api.Value, bool) {
	if e.Op == api.OpTerm {
		return valueOf(e.Term, l)
	}
	var kids []api.Value
	for _, kid := range e.Kids {
		v, ok := work(kid, l)
		if !ok {
			return api.Value{}, false
		}
		kids = append(kids, v)
	}
	return value.Arith(e.Op, kids...)
}
