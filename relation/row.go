package relation

import (
	"slices"

	"pedigree/api"
)

// fits: is it a row of the arity?
func fits(x api.Row, arity int) bool {
	for i, s := range x {
		if s < 0 || i >= arity && s != 0 {
			return false
		}
	}
	return true
}

// under answers a row with 0 in all columns but those of the mask, so that rows that are the same in these are one array.
func under(m api.Mask, x api.Row) api.Row {
	for i := range x {
		if m&(1<<i) == 0 {
			x[i] = 0
		}
	}
	return x
}

// compare says which of two rows stands first in the order of rows: below 0 the first one, above 0 the second, 0 neither.
func compare(a, b api.Row) int { return slices.Compare(a[:], b[:]) }
