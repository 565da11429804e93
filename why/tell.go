package why

import (
	"slices"

	"pedigree/api"
)

// told is what is kept of the proof that is told of a fact.
type told struct {
	parts int   // how many it has; MaxProof and 1 more, if they are more than MaxProof
	kids  []int // the places of the facts of those kids that are proofs, in order
}

// proof answers the proof that is told of a fact. (P23.2)
func (h *heights) proof(at int) (api.Proof, api.Errno) {
	// What is higher has more parts too; so nothing is gone into too deep.
	if h.of[at] > api.MaxProof {
		return api.Proof{}, api.ErrSize
	}
	kept := h.reckon(at)
	if kept[at].parts > api.MaxProof {
		return api.Proof{}, api.ErrSize
	}
	return h.write(at, kept), api.OK
}

// reckon answers, by the facts' places, what is told of a fact and of those that it hangs on.
func (h *heights) reckon(top int) []told {
	kept := make([]told, len(h.facts))
	var parts func(at int) int
	parts = func(at int) int {
		x := &kept[at]
		if x.parts > 0 {
			return x.parts
		}
		x.parts = 1
		if h.by[at] == nowhere {
			return x.parts
		}
		v := &h.all[h.by[at]]
		for i := 0; i < v.size() && x.parts <= api.MaxProof; i++ {
			l, solution := v.kid(i)
			if l.kind != api.LPos {
				x.parts++
				continue
			}
			kid := h.firstBelow(h.pool(&l.shape, solution), h.of[at])
			x.kids = append(x.kids, kid)
			x.parts += parts(kid)
		}
		x.parts = min(x.parts, api.MaxProof+1)
		return x.parts
	}
	parts(top)
	return kept
}

// write answers a proof as it is told. Each part is new memory, also where a fact is proved twice.
func (h *heights) write(at int, kept []told) api.Proof {
	f := h.facts[at]
	out := api.Proof{Kind: api.ProofGiven, Fact: api.Fact{Pred: f.Pred, Args: slices.Clone(f.Args)}}
	if h.by[at] == nowhere {
		return out
	}
	v := &h.all[h.by[at]]
	out.Kind, out.Rule, out.Binds = api.ProofRule, v.number, v.binds()
	out.Kids = slices.Grow(out.Kids, v.size())
	next := kept[at].kids
	for i := range v.size() {
		l, solution := v.kid(i)
		if l.kind != api.LPos {
			out.Kids = append(out.Kids, l.leaf(solution))
			continue
		}
		out.Kids = append(out.Kids, h.write(next[0], kept))
		next = next[1:]
	}
	return out
}
