package term

import (
	"slices"
	"strconv"

	"pedigree/api"
)

// places keeps which term takes the place of a variable.
type places map[string]api.Term

func placesOf(s []api.Pair) places {
	out := places{}
	for _, pair := range s {
		if _, taken := out[pair.Var]; taken || pair.Var == "" || pair.Var == blank {
			continue
		}
		out[pair.Var] = pair.Term
	}
	return out
}

func (p places) put(t *api.Term) {
	if other, ok := p[t.Var]; ok {
		*t = other
	}
}

// Apply: the atom with its variables replaced. (P4.4)
func Apply(s []api.Pair, a api.Atom) api.Atom {
	a.Args = slices.Clone(a.Args)
	walk(&a, placesOf(s).put)
	return a
}

// ApplyRule: the rule with its variables replaced. (P4.4)
func ApplyRule(s []api.Pair, r api.Rule) (api.Rule, api.Errno) {
	if !isRule(r) {
		return api.Rule{}, api.ErrTerm
	}
	out := cloneRule(r)
	walk(&out, placesOf(s).put)
	if !isRule(out) {
		return api.Rule{}, api.ErrTerm
	}
	return out, api.OK
}

// cloneRule and what it calls copy every list, so that a walk may write into the copy's terms.
func cloneRule(r api.Rule) api.Rule {
	r.Head = slices.Clone(r.Head)
	r.Body = slices.Clone(r.Body)
	for i := range r.Body {
		l := &r.Body[i]
		l.Atom.Args = slices.Clone(l.Atom.Args)
		l.Left = cloneExpr(l.Left)
		l.Right = cloneExpr(l.Right)
	}
	return r
}

func cloneExpr(e api.Expr) api.Expr {
	e.Kids = slices.Clone(e.Kids)
	for i := range e.Kids {
		e.Kids[i] = cloneExpr(e.Kids[i])
	}
	return e
}

// Canon: the rule with its variables V0, V1 .. as they come first. (P4.8)
func Canon(r api.Rule) (api.Rule, api.Errno) {
	if !isRule(r) {
		return api.Rule{}, api.ErrTerm
	}
	var s []api.Pair
	for i, name := range RuleVars(r) {
		s = append(s, api.Pair{Var: name, Term: api.Term{Var: "V" + strconv.Itoa(i)}})
	}
	return ApplyRule(s, r)
}

// Alike: are the rules the same but for their variables' names? (P4.8)
func Alike(a, b api.Rule) bool {
	x, errA := Canon(a)
	y, errB := Canon(b)
	return errA == api.OK && errB == api.OK && sameRule(x, y)
}

func sameRule(a, b api.Rule) bool {
	return a.Pred == b.Pred && slices.Equal(a.Head, b.Head) && slices.EqualFunc(a.Body, b.Body, sameLiteral)
}

func sameLiteral(a, b api.Literal) bool {
	return a.Kind == b.Kind && a.Atom.Pred == b.Atom.Pred && slices.Equal(a.Atom.Args, b.Atom.Args) &&
		a.Rel == b.Rel && sameExpr(a.Left, b.Left) && sameExpr(a.Right, b.Right)
}

func sameExpr(a, b api.Expr) bool {
	return a.Op == b.Op && a.Term == b.Term && slices.EqualFunc(a.Kids, b.Kids, sameExpr)
}
