package why

import (
	"strconv"

	"pedigree/api"
	"pedigree/check"
)

// span is the places of a predicate's facts in the model: from one on up to the one ahead of another.
type span struct {
	from, to int
}

// book is the model, whose facts are found by what they have in some of their columns.
type book struct {
	facts []api.Fact // in order
	spans map[string]span
	pages map[string][]*page // by the predicate
}

func newBook(facts []api.Fact) *book {
	out := &book{facts, map[string]span{}, map[string][]*page{}}
	for i, f := range facts {
		s, stood := out.spans[f.Pred]
		if !stood {
			s.from = i
		}
		s.to = i + 1
		out.spans[f.Pred] = s
	}
	return out
}

// asked answers the facts whose names stand in a body: where there are many rules, going through all facts for each would take far longer.
func (b *book) asked(body []api.Literal) []api.Fact {
	preds, _ := check.Preds(api.Program{Rules: []api.Rule{{Body: body}}}, nil)
	var out []api.Fact
	for _, p := range preds {
		s := b.spans[p.Name]
		out = append(out, b.facts[s.from:s.to]...)
	}
	return out
}

// page finds the facts of a predicate by some of their columns.
type page struct {
	known api.Mask
	pools map[string]*pool
}

// pool is all facts that have the same in the columns of a page: those that an atom is under a solution. One of them is enough for a kid.
type pool struct {
	places  []int // rising
	lower   []int // those of them whose facts are lower than all ahead of them
	met     bool  // one of them has a height
	waiters []int // the ways that wait until one has
}

// page answers the one of a predicate by some columns. It is made when it is first asked for: most never are.
func (b *book) page(pred string, known api.Mask) *page {
	for _, p := range b.pages[pred] {
		if p.known == known {
			return p
		}
	}
	out := &page{known, map[string]*pool{}}
	s := b.spans[pred]
	for at := s.from; at < s.to; at++ {
		key := pack(b.facts[at].Args, known)
		if out.pools[key] == nil {
			out.pools[key] = &pool{}
		}
		out.pools[key].places = append(out.pools[key].places, at)
	}
	b.pages[pred] = append(b.pages[pred], out)
	return out
}

// find answers the pool of facts that have what these values are in the page's columns.
func (p *page) find(l []api.Value) *pool { return p.pools[pack(l, p.known)] }

// pool answers the facts of the model that a shape is under a solution.
func (b *book) pool(s *shape, solution []api.Bind) *pool {
	return b.page(s.pred, s.known).find(s.under(solution).Args)
}

// pack writes the values that stand in some columns as one text. Unlike values have unlike ones: behind a number's digits comes none, and a text's length fits into the byte ahead of it.
func pack(l []api.Value, known api.Mask) string {
	var out []byte
	for i, v := range l {
		switch {
		case known>>i&1 == 0:
		case v.Kind == api.KNum:
			out = strconv.AppendInt(append(out, 'n'), v.Num, 10)
		default:
			out = append(append(out, 't', byte(len(v.Text))), v.Text...)
		}
	}
	return string(out)
}
