package why

import (
	"slices"

	"pedigree/api"
)

// heights are those of the facts of a model, with the first ways that reach them.
type heights struct {
	*work
	all    []way // rule by rule, and of each in the order of its solutions
	leaves pool  // stands for all kids that are no proofs: they are of height 1
	of     []int // the heights, by the facts' places; 0: none was found yet
	by     []int // the ways' numbers, by the facts' places; nowhere: the fact is given
}

func newHeights(w *work) *heights {
	h := &heights{work: w, of: make([]int, len(w.facts)), by: make([]int, len(w.facts))}
	for _, r := range w.rules {
		if r != nil {
			h.all = append(h.all, w.ways(r)...)
		}
	}
	h.find()
	return h
}

// find goes over the ways again and again. Each time those are due whose last kids were found the time ahead: so the first that is due for a fact reaches it at its height.
func (h *heights) find() {
	fresh := h.start()
	due := h.wait()
	later := h.rouse(&h.leaves)
	height, left := 1, len(h.facts)
again:
	slices.Sort(due)
	for _, n := range due {
		if at := h.all[n].at; h.of[at] == 0 {
			h.of[at], h.by[at] = height, n
			fresh = append(fresh, at)
		}
	}
	left -= len(fresh)
	due = append(later, h.rouseBy(fresh)...)
	fresh, later = nil, nil
	if left > 0 {
		height++
		goto again
	}
}

// start answers the places of the given facts, to which nothing need lead.
func (h *heights) start() []int {
	var out []int
	for _, f := range h.given {
		at, _ := h.place(f)
		h.of[at], h.by[at] = 1, nowhere
		out = append(out, at)
	}
	return out
}

// wait lets each way wait for all its kids, and answers those that have none.
func (h *heights) wait() []int {
	var out []int
	for n := range h.all {
		v := &h.all[n]
		v.waits = v.size()
		for i := range v.waits {
			p := h.kidPool(v.kid(i))
			p.waiters = append(p.waiters, n)
		}
		if v.waits == 0 {
			out = append(out, n)
		}
	}
	return out
}

// kidPool answers the pool in which the kid for a literal under a solution is.
func (h *heights) kidPool(l *literal, solution []api.Bind) *pool {
	if l.kind != api.LPos {
		return &h.leaves
	}
	return h.pool(&l.shape, solution)
}

// rouse answers the ways that have nothing left to wait for, once a pool has something.
func (h *heights) rouse(p *pool) []int {
	if p.met {
		return nil
	}
	p.met = true
	var out []int
	for _, n := range p.waiters {
		h.all[n].waits--
		if h.all[n].waits == 0 {
			out = append(out, n)
		}
	}
	p.waiters = nil
	return out
}

// rouseBy does so with all pools in which facts stand that have just got a height.
func (h *heights) rouseBy(places []int) []int {
	var out []int
	for _, at := range places {
		f := h.facts[at]
		for _, p := range h.pages[f.Pred] {
			out = append(out, h.rouse(p.find(f.Args))...)
		}
	}
	return out
}

// firstBelow answers the place of a pool's first fact that is below a height. Behind a fact that is no lower than one ahead of it nobody need look.
func (h *heights) firstBelow(p *pool, height int) int {
	if p.lower == nil {
		for _, at := range p.places {
			if n := len(p.lower); n == 0 || h.of[at] < h.of[p.lower[n-1]] {
				p.lower = append(p.lower, at)
			}
		}
	}
	i := slices.IndexFunc(p.lower, func(at int) bool { return h.of[at] < height })
	return p.lower[i]
}
