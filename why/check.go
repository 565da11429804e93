package why

import (
	"slices"

	"pedigree/api"
	"pedigree/value"
)

// checker holds proofs against the model.
type checker struct {
	*work
	catalogs map[int]catalog // by the rules' numbers
}

// catalog is the ways of a rule, found by what a proof by one tells.
type catalog struct {
	ways    []way
	numbers map[string]int // by the values of their binds
}

// isProof: is it one, whatever literal it is for?
func (c *checker) isProof(x *api.Proof) bool {
	switch x.Kind {
	case api.ProofGiven:
		return isBare(x) && c.isGiven(x.Fact)
	case api.ProofRule:
		v := c.way(x.Rule, x.Binds)
		return v != nil && value.CompareFacts(x.Fact, c.facts[v.at]) == 0 && c.areKids(x.Kids, v)
	}
	return false
}

// isBare: are the fields zero that only a proof by a rule uses?
func isBare(x *api.Proof) bool { return x.Rule == 0 && len(x.Binds)+len(x.Kids) == 0 }

// way answers the one of a rule that tells these binds; nil: there is none.
func (c *checker) way(number int, binds []api.Bind) *way {
	if number < 0 || number >= len(c.rules) || c.rules[number] == nil {
		return nil
	}
	all, stood := c.catalogs[number]
	if !stood {
		all = newCatalog(c.ways(c.rules[number]))
		c.catalogs[number] = all
	}
	i, ok := all.numbers[keyOf(binds)]
	// Binds that have other names, or values that may not be, may have the same key.
	if !ok || !slices.Equal(binds, all.ways[i].binds()) {
		return nil
	}
	return &all.ways[i]
}

// newCatalog: no two ways of a rule tell the same binds.
func newCatalog(ways []way) catalog {
	out := catalog{ways, map[string]int{}}
	for i := range ways {
		out.numbers[keyOf(ways[i].binds())] = i
	}
	return out
}

func keyOf(binds []api.Bind) string {
	var l []api.Value
	for _, b := range binds {
		l = append(l, b.Val)
	}
	return pack(l, 1<<api.MaxVars-1)
}

func (c *checker) areKids(l []api.Proof, v *way) bool {
	if len(l) != v.size() {
		return false
	}
	for i := range l {
		if lit, solution := v.kid(i); !c.isKid(&l[i], lit, solution) {
			return false
		}
	}
	return true
}

// isKid: is it one for a literal under a solution?
func (c *checker) isKid(x *api.Proof, l *literal, solution []api.Bind) bool {
	if l.kind == api.LPos {
		return isUnder(l.under(solution), x.Fact) && c.isProof(x)
	}
	want := l.leaf(solution)
	return x.Kind == want.Kind && isBare(x) && value.CompareFacts(x.Fact, want.Fact) == 0
}

// isUnder: is a fact what an atom is under a solution, where a zero Value stands for a blank?
func isUnder(want, f api.Fact) bool {
	return want.Pred == f.Pred && slices.EqualFunc(want.Args, f.Args, func(a, b api.Value) bool {
		return a == api.Value{} || a == b
	})
}
