package table

import (
	"strconv"

	"pedigree/api"
	"pedigree/value"
)

// book is the given facts, to be found by the values that they have at some columns.
type book struct {
	tuples map[string][][]api.Value // by the predicate
	pages  map[api.Adorned]page
}

// page is a predicate's tuples by their values, packed, where a pattern has a b.
type page map[string][][]api.Value

func newBook(l []api.Fact) book {
	out := book{tuples: map[string][][]api.Value{}, pages: map[api.Adorned]page{}}
	for _, f := range value.Facts(l) {
		out.tuples[f.Pred] = append(out.tuples[f.Pred], f.Args)
	}
	return out
}

// find answers the tuples of a predicate that have these values where the pattern has a b.
func (b book) find(pair api.Adorned, known []api.Value) [][]api.Value {
	found, ok := b.pages[pair]
	if !ok {
		found = pageOf(pair.Pattern, b.tuples[pair.Pred])
		b.pages[pair] = found // a page is written when it is first looked for: most patterns never are
	}
	return found[pack(known)]
}

func pageOf(pattern string, l [][]api.Value) page {
	out := page{}
	for _, tuple := range l {
		var known []api.Value
		for i, v := range tuple {
			if pattern[i] == 'b' {
				known = append(known, v)
			}
		}
		key := pack(known)
		out[key] = append(out[key], tuple)
	}
	return out
}

// pack writes values as one text. Unlike lists of values have unlike ones: behind a number's digits comes none, and a text's length, at most MaxText, fits into the byte ahead of it.
func pack(l []api.Value) string {
	var out []byte
	for _, v := range l {
		if v.Kind == api.KNum {
			out = strconv.AppendInt(append(out, 'n'), v.Num, 10)
		} else {
			out = append(out, 't', byte(len(v.Text)))
			out = append(out, v.Text...)
		}
	}
	return string(out)
}
