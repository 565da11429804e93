package subsume

import (
	"math/bits"
	"slices"

	"pedigree/api"
)

// set is a set of small numbers: bit i is the number i.
type set uint32

func (s set) has(i int) bool { return s>>i&1 == 1 }

// least answers the least number of a set that has one.
func (s set) least() int { return bits.TrailingZeros32(uint32(s)) }

// options are, of each literal, the numbers of the landings that are not ruled out.
type options [api.MaxBody]set

// first answers the options of the first mapping, one for each literal; false: there is no mapping.
func (m *mapper) first() (options, bool) {
	var o options
	for i, l := range m.lands {
		o[i] = 1<<len(l) - 1
	}
	if !m.narrow(&o) {
		return options{}, false
	}
	return m.choose(o, 1<<len(m.lands)-1)
}

// choose leaves each of some literals its option in the first mapping that the options allow; false: they allow none. Literals that are not linked can't be in each other's way: what one group comes to is the first for all of them.
func (m *mapper) choose(o options, some set) (options, bool) {
groups:
	for some != 0 {
		group := m.linked(&o, some)
		some &^= group
		i := group.least()
		for k := range m.lands[i] {
			if !o[i].has(k) {
				continue
			}
			tried := o
			tried[i] = 1 << k
			if !m.narrow(&tried) {
				continue
			}
			if chosen, ok := m.choose(tried, group&^(1<<i)); ok {
				o = chosen
				continue groups
			}
		}
		return options{}, false
	}
	return o, true
}

// narrow rules options out until all agree as far as one variable tells; false: a literal has none left.
func (m *mapper) narrow(o *options) bool {
	for again := true; again; {
		again = false
		for v := range m.names {
			if m.agree(v, o) {
				again = true
			}
		}
		if slices.Contains(o[:len(m.lands)], 0) {
			return false
		}
	}
	return true
}

// agree rules out the options that give the variable a term which another literal that gives it one can't; true: there was one.
func (m *mapper) agree(v int, o *options) bool {
	givers := make([]set, len(m.terms)) // by the terms' numbers
	var all set
	m.given(v, o, func(i, k int, n uint16) {
		givers[n] |= 1 << i
		all |= 1 << i
	})
	some := false
	m.given(v, o, func(i, k int, n uint16) {
		if givers[n] != all {
			o[i] &^= 1 << k
			some = true
		}
	})
	return some
}

// given hands on the number of each literal that gives the variable a term, with that of the option by which it does, and of the term.
func (m *mapper) given(v int, o *options, hand func(i, k int, n uint16)) {
	for i, l := range m.lands {
		for k := range l {
			if n := l[k][v]; n != 0 && o[i].has(k) {
				hand(i, k, n)
			}
		}
	}
}

// linked are those of some literals that hang together with the first of them, by variables that may still be given one term or another.
func (m *mapper) linked(o *options, some set) set {
	group := some & -some
	vars := m.open(o, some.least())
	for again := true; again; {
		again = false
		for i := range m.lands {
			if !some.has(i) || group.has(i) {
				continue
			}
			if own := m.open(o, i); own&vars != 0 {
				group |= 1 << i
				vars |= own
				again = true
			}
		}
	}
	return group
}

// open are the variables to which the options of a literal give unlike terms.
func (m *mapper) open(o *options, i int) set {
	var out set
	l := m.lands[i]
	first := l[o[i].least()]
	for k := range l {
		for v := range m.names {
			if o[i].has(k) && l[k][v] != first[v] {
				out |= 1 << v
			}
		}
	}
	return out
}

// pairs answers the variables with what options that leave each literal one landing give them.
func (m *mapper) pairs(o options) []api.Pair {
	var out []api.Pair
	for v, name := range m.names {
		m.given(v, &o, func(i, k int, n uint16) {
			if len(out) == v { // the other literals give the same
				out = append(out, api.Pair{Var: name, Term: m.terms[n]})
			}
		})
	}
	return out
}
