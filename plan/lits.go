package plan

import (
	"iter"
	"math/bits"
)

// lits are literals of a body: bit i is literal i.
type lits uint32

// firstOf answers the first n literals.
func firstOf(n int) lits { return 1<<n - 1 }

func (l lits) has(i int) bool { return i >= 0 && l>>i&1 == 1 }

// rising goes through the numbers of the literals, from the least on.
func (l lits) rising() iter.Seq[int] {
	return func(yield func(int) bool) {
		for rest := l; rest != 0; rest &= rest - 1 {
			if !yield(bits.TrailingZeros32(uint32(rest))) {
				return
			}
		}
	}
}
