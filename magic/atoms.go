package magic

import (
	"strconv"

	"pedigree/api"
)

// magicAtom answers the magic atom of an atom of the pair: how it is asked.
func magicAtom(pair api.Adorned, a api.Atom) api.Atom {
	out := api.Atom{Pred: reserved + "m_" + pair.Pattern + "_" + pair.Pred}
	for i, t := range a.Args {
		if pair.Pattern[i] == 'b' {
			out.Args = append(out.Args, t)
		}
	}
	return out
}

// seedOf answers the fact that the query is asked; the pair is its own, so the terms by which it is asked are values.
func seedOf(pair api.Adorned, q api.Atom) api.Fact {
	asked := magicAtom(pair, q)
	out := api.Fact{Pred: asked.Pred}
	for _, t := range asked.Args {
		out.Args = append(out.Args, t.Val)
	}
	return out
}

// supplement answers the atom that stands for all that is ahead of a rule's k-th atom of a pair.
func supplement(rule, k int, live []string) api.Atom {
	out := api.Atom{Pred: reserved + "s_" + strconv.Itoa(rule) + "_" + strconv.Itoa(k)}
	for _, name := range live {
		out.Args = append(out.Args, api.Term{Var: name})
	}
	return out
}
