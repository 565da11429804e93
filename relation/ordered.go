package relation

import "slices"

// ordered keeps things, each once, in the order in which they came.
type ordered[T comparable] struct {
	list []T       // written to behind its end alone: who goes through a list from earlier still sees what it had
	at   map[T]int // where in the list each one stands
}

// keep answers what keeps the things of a list, which has none twice.
func keep[T comparable](list []T) ordered[T] {
	o := ordered[T]{list: slices.Clone(list), at: make(map[T]int, len(list))}
	o.number()
	return o
}

// number says anew where each thing stands.
func (o *ordered[T]) number() {
	clear(o.at)
	for i, x := range o.list {
		o.at[x] = i
	}
}

// has: is it there?
func (o *ordered[T]) has(x T) bool {
	_, ok := o.at[x]
	return ok
}

// put puts a thing behind the others; false: it is there already.
func (o *ordered[T]) put(x T) bool {
	if o.has(x) {
		return false
	}
	o.at[x] = len(o.list)
	o.list = append(o.list, x)
	return true
}

// take takes a thing out; false: it is not there.
func (o *ordered[T]) take(x T) bool {
	i, ok := o.at[x]
	if !ok {
		return false
	}
	o.list = slices.Concat(o.list[:i], o.list[i+1:])
	o.number()
	return true
}
