package magic

import (
	"pedigree/adorn"
	"pedigree/api"
	"pedigree/term"
)

// writer writes what the parts of adorned rules come to.
type writer struct {
	pairs map[string]api.Adorned // by their names
	hand  func(api.Rule)         // takes each rule that is finished
}

func newWriter(pairs []api.Adorned, hand func(api.Rule)) writer {
	out := writer{pairs: map[string]api.Adorned{}, hand: hand}
	for _, pair := range pairs {
		out.pairs[adorn.Name(pair)] = pair
	}
	return out
}

// write goes through the adorned rule of a number.
func (w writer) write(number int, r api.Rule) {
	head, _ := term.Head(r) // plain rules have no aggregates
	first := magicAtom(w.pairs[r.Pred], head)
	live, asked := newLives(r), 0
	live.pass(term.AtomVars(first))
	p := partOf(first)
	for i, l := range r.Body {
		// A not's predicate has no rules, and a comparison's is the empty text: neither is a pair's name.
		if pair, ok := w.pairs[l.Atom.Pred]; ok {
			names := live.at(i)
			w.finish(supplement(number, asked, names), p)
			w.finish(magicAtom(pair, l.Atom), partOf(supplement(number, asked, names)))
			p = partOf(supplement(number, asked, names))
			asked++
		}
		p = p.with(l)
		live.pass(term.LiteralVars(l))
	}
	w.finish(head, p)
}

func (w writer) finish(head api.Atom, body part) {
	out := api.Rule{Pred: head.Pred, Body: body}
	for _, t := range head.Args {
		out.Head = append(out.Head, api.Arg{Term: t})
	}
	w.hand(out)
}

// part is the body of a rule that is being written.
type part []api.Literal

func partOf(a api.Atom) part { return part{{Kind: api.LPos, Atom: a}} }

// with answers the part with a literal behind it. It is a copy: so nothing is ever put into the room of a part that was handed on.
func (p part) with(l api.Literal) part {
	out := make(part, len(p)+1)
	copy(out, p)
	out[len(p)] = l
	return out
}
