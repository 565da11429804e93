package check

import (
	"cmp"
	"slices"

	"pedigree/api"
)

// columns says how many columns the predicate of a name has.
type columns map[string]int

// take lets a predicate in; false: its name has another number of columns.
func (c columns) take(p api.Pred) bool {
	arity, known := c[p.Name]
	if !known {
		c[p.Name] = p.Arity
	}
	return !known || arity == p.Arity
}

func (c columns) takeAll(l []api.Pred) bool {
	for _, p := range l {
		if !c.take(p) {
			return false
		}
	}
	return true
}

func (c columns) preds() []api.Pred {
	var out []api.Pred
	for name, arity := range c {
		out = append(out, api.Pred{Name: name, Arity: arity})
	}
	slices.SortFunc(out, func(a, b api.Pred) int { return cmp.Compare(a.Name, b.Name) })
	return out
}

// Preds: the predicates of a program and facts, with their arities. (P7.5)
func Preds(p api.Program, l []api.Fact) ([]api.Pred, api.Errno) {
	c := columns{}
	for _, r := range p.Rules {
		if !c.takeAll(rulePreds(r)) {
			return nil, api.ErrArity
		}
	}
	for _, f := range l {
		if !c.take(factPred(f)) {
			return nil, api.ErrArity
		}
	}
	return c.preds(), api.OK
}

// rulePreds are the predicates of a rule, in order, each as often as it stands there.
func rulePreds(r api.Rule) []api.Pred {
	out := []api.Pred{{Name: r.Pred, Arity: len(r.Head)}}
	for _, l := range r.Body {
		if l.Kind == api.LPos || l.Kind == api.LNot {
			out = append(out, atomPred(l.Atom))
		}
	}
	return out
}

func atomPred(a api.Atom) api.Pred { return api.Pred{Name: a.Pred, Arity: len(a.Args)} }

func factPred(f api.Fact) api.Pred { return api.Pred{Name: f.Pred, Arity: len(f.Args)} }
