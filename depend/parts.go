package depend

import (
	"container/heap"
	"slices"
)

// search is a walk along the steps that finds the parts: one is whole when the walk leaves the first of its predicates that it has found.
type search struct {
	steps  [][]int
	count  int   // predicates that were found
	found  []int // when each predicate was found, from 1 on; 0: not yet
	oldest []int // when the first one was found to which it is seen to come, of those whose parts are not whole
	taken  []int // how many of its steps have been looked at
	open   []int // the predicates that were found and whose parts are not whole
	height int   // how many stand in open
	part   []int // the least predicate of its part
}

func newSearch(g *graph) *search {
	count := len(g.names)
	list := func() []int { return make([]int, count) }
	return &search{steps: g.steps, found: list(), oldest: list(), taken: list(), open: list(), part: list()}
}

func (s *search) enter(x int) {
	s.count++
	s.found[x], s.oldest[x] = s.count, s.count
	s.open[s.height] = x
	s.height++
}

// next is a predicate to which a step leads from x and which was not found yet; -1: there is none. It is looked at again when it has been found.
func (s *search) next(x int) int {
	for ; s.taken[x] < len(s.steps[x]); s.taken[x]++ {
		y := s.steps[x][s.taken[x]]
		if s.found[y] == 0 {
			return y
		}
		s.oldest[x] = min(s.oldest[x], s.oldest[y])
	}
	return -1
}

func (s *search) leave(x int) {
	if s.oldest[x] < s.found[x] {
		return
	}
	top := s.height
	s.height--
	for s.open[s.height] != x {
		s.height--
	}
	whole := s.open[s.height:top]
	least := slices.Min(whole)
	for _, y := range whole {
		s.part[y] = least
		s.oldest[y] = len(s.found) + 1 // later than all: so none that comes to it takes it for one of an open part
	}
}

// parts says of each predicate which is the least one of its part.
func (g *graph) parts() []int {
	s := newSearch(g)
	var visit func(x int) // it holds little of its own, since it may go as deep as there are predicates
	visit = func(x int) {
		s.enter(x)
		for y := s.next(x); y >= 0; y = s.next(x) {
			visit(y)
		}
		s.leave(x)
	}
	for x := range g.names {
		if s.found[x] == 0 {
			visit(x)
		}
	}
	return s.part
}

// ready are parts that may stand next, by their least predicates.
type ready []int

func (r ready) Len() int           { return len(r) }
func (r ready) Less(i, j int) bool { return r[i] < r[j] }
func (r ready) Swap(i, j int)      { r[i], r[j] = r[j], r[i] }
func (r *ready) Push(x any)        { *r = append(*r, x.(int)) }

func (r *ready) Pop() any {
	last := (*r)[len(*r)-1]
	*r = (*r)[:len(*r)-1]
	return last
}

// between says of each part, by its least predicate, how many steps lead from it to other parts, and from which other parts steps lead to it.
func (g *graph) between(part []int) (down []int, up [][]int) {
	down, up = make([]int, len(part)), make([][]int, len(part))
	for x, steps := range g.steps {
		for _, y := range steps {
			if high, low := part[x], part[y]; high != low {
				down[high]++
				up[low] = append(up[low], high)
			}
		}
	}
	return down, up
}

// places says of each predicate where its part stands among the parts, and how many parts there are.
func (g *graph) places() ([]int, int) {
	part := g.parts()
	waits, up := g.between(part)
	next := new(ready)
	for x, least := range part {
		if x == least && waits[x] == 0 {
			heap.Push(next, x)
		}
	}
	places, count := make([]int, len(part)), 0
	for ; next.Len() > 0; count++ {
		low := heap.Pop(next).(int)
		places[low] = count
		for _, high := range up[low] {
			if waits[high]--; waits[high] == 0 {
				heap.Push(next, high)
			}
		}
	}
	for x, least := range part {
		places[x] = places[least]
	}
	return places, count
}
