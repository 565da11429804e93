package index

import "pedigree/api"

// index finds the numbers of rows by their key under one mask.
type index struct {
	mask    api.Mask
	numbers map[api.Row][]int // by keys; each list rises
	seen    int               // how many rows have been taken in: those of the numbers below it
	gone    int               // how many rows had been removed by then
}

// key answers a row's columns under a mask, the others being 0, so that rows that are the same in these have one key.
func key(m api.Mask, x *api.Row) api.Row {
	columns := make([]api.Sym, len(x))
	for i, s := range x {
		if m&(1<<i) != 0 {
			columns[i] = s
		}
	}
	return api.Row(columns)
}

// of answers the numbers of the rows that have a row's key; the list is the index's own.
func (x *index) of(row *api.Row) []int { return x.numbers[key(x.mask, row)] }

// take takes in the row that comes next.
func (x *index) take(row *api.Row) {
	k := key(x.mask, row)
	x.numbers[k] = append(x.numbers[k], x.seen)
	x.seen++
}

// empty takes all rows out.
func (x *index) empty() {
	clear(x.numbers)
	x.seen = 0
}
