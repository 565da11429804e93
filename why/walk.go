package why

import "pedigree/api"

// visitor is called by the walk through a proof: once for each part, ahead of those within it.
type visitor interface {
	// visit is told how many parts stand around the part; false: the walk need not go on.
	visit(x *api.Proof, around int) bool
}

// walk goes through all parts, in the order of their lines; false: the visitor did not want all of them.
func walk(x *api.Proof, around int, v visitor) bool {
	if !v.visit(x, around) {
		return false
	}
	for i := range x.Kids {
		if !walk(&x.Kids[i], around+1, v) {
			return false
		}
	}
	return true
}

// measurer finds the height.
type measurer struct {
	height int
}

func (m *measurer) visit(_ *api.Proof, around int) bool {
	m.height = max(m.height, around+1)
	return true
}

// gatherer finds the facts that are said to be given.
type gatherer struct {
	given []api.Fact
}

func (g *gatherer) visit(x *api.Proof, _ int) bool {
	if x.Kind == api.ProofGiven {
		g.given = append(g.given, x.Fact)
	}
	return true
}
