package store

import "pedigree/api"

// crowd says how many facts of a predicate a transaction sees, and how many columns each of them has.
type crowd struct{ n, columns int }

// crowd counts but once what the transaction has begun with: it may be gone fact by fact.
func (t *Tx) crowd(name string) crowd {
	if c, counted := t.crowds[name]; counted {
		return c
	}
	l := ofName(t.facts, name)
	if len(l) == 0 {
		return crowd{}
	}
	return crowd{len(l), len(l[0].Args)}
}

// behind is the crowd when a fact has been touched in, or out, which was seen, or wasn't.
func (c crowd) behind(f api.Fact, seen, in bool) crowd {
	switch {
	case in && !seen:
		return crowd{c.n + 1, len(f.Args)}
	case seen && !in:
		return crowd{c.n - 1, c.columns}
	}
	return c
}
