package join

import (
	"pedigree/api"
	"pedigree/index"
	"pedigree/relation"
)

// keep is what is kept of a predicate: its facts as rows, whose numbers there are theirs, and the book that finds them.
type keep struct {
	*relation.Relation
	*index.Book
}

func newKeep(arity int) *keep {
	r, _ := relation.New(arity)
	b, _ := index.New(r)
	return &keep{r, b}
}

// narrow answers another keep, which has some of the columns alone.
func (k *keep) narrow(columns []int) *keep {
	out := newKeep(len(columns))
	for _, row := range k.Range(0, k.Len()) {
		var x api.Row
		for i, c := range columns {
			x[i] = row[c]
		}
		out.Add(x)
	}
	return out
}

// read is what a literal reads: its predicate's facts, and the span of them that an LPos is held to.
type read struct {
	*keep
	from, to int
}

func (r read) isWhole() bool { return r.from == 0 && r.to == r.Len() }

func (r read) isEmpty() bool { return r.from == r.to }
