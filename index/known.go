package index

import (
	"pedigree/api"
	"pedigree/relation"
)

// known is what a book knows of its relation. It is no relation by itself, so that a book has no call that would change one.
type known struct {
	rel *relation.Relation
}

// columns: is every bit of the mask a column of the relation?
func (k known) columns(m api.Mask) bool { return m>>k.rel.Arity() == 0 }

// renew brings an index up to date.
func (k known) renew(x *index) {
	// A row that went has taken one off the numbers of all behind it, and may stand anywhere.
	if gone := k.rel.Gone(); gone != x.gone {
		x.empty()
		x.gone = gone
	}
	for _, row := range k.rel.Range(x.seen, k.rel.Len()) {
		x.take(&row)
	}
}
