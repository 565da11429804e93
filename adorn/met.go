package adorn

import "pedigree/api"

// met are the pairs in the order in which they were met, each once.
type met struct {
	pairs []api.Adorned
	seen  map[api.Adorned]struct{}
	taken int // how many of them next has answered
}

func newMet() met { return met{seen: map[api.Adorned]struct{}{}} }

func (m *met) meet(pair api.Adorned) {
	if _, again := m.seen[pair]; again {
		return
	}
	m.seen[pair] = struct{}{}
	m.pairs = append(m.pairs, pair)
}

// next answers the first pair that it has not answered yet; false: there is none by now.
func (m *met) next() (api.Adorned, bool) {
	if m.taken == len(m.pairs) {
		return api.Adorned{}, false
	}
	m.taken++
	return m.pairs[m.taken-1], true
}
