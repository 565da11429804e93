package engine

import (
	"pedigree/adorn"
	"pedigree/api"
	"pedigree/depend"
	"pedigree/magic"
	"pedigree/subsume"
)

// A pass is one step of what becomes of a program for a query.
type pass interface {
	name() string
	rules() []api.Rule
}

// A paired pass tells how many pairs it met.
type paired interface {
	pairs() int
}

// A seeded pass tells the facts with which its rules begin.
type seeded interface {
	seeds() []api.Fact
}

// An asking pass tells the query that its rules answer.
type asking interface {
	query() api.Atom
}

// cut is a pass that tells its rules alone.
type cut struct {
	called string
	left   []api.Rule
}

func (c cut) name() string { return c.called }

func (c cut) rules() []api.Rule { return c.left }

// adorned is the pass that writes the rules once for each way of asking.
type adorned struct {
	goal api.Goal
	met  []api.Adorned
}

func (a adorned) name() string { return "adorned" }

func (a adorned) rules() []api.Rule { return a.goal.Rules }

func (a adorned) query() api.Atom { return a.goal.Query }

func (a adorned) pairs() int { return len(a.met) }

// directed is the pass whose rules work out what is asked alone.
type directed struct{ goal api.Goal }

func (d directed) name() string { return "magic" }

func (d directed) rules() []api.Rule { return d.goal.Rules }

func (d directed) query() api.Atom { return d.goal.Query }

func (d directed) seeds() []api.Fact { return d.goal.Seeds }

// passes are what becomes of a program that fits, from the first pass to the last.
func passes(p api.Program, q api.Atom) ([]pass, api.Errno) {
	first, plain := depend.Split(p)
	pruned, err := subsume.Prune(plain.Rules, q)
	if err != api.OK {
		return nil, err
	}
	goal, met, err := adorn.Adorn(pruned, q)
	if err != api.OK {
		return nil, err
	}
	last, err := magic.Rewrite(pruned, q)
	if err != api.OK {
		return nil, err
	}
	return []pass{cut{"ahead", first.Rules}, cut{"plain", plain.Rules}, cut{"pruned", pruned}, adorned{goal, met}, directed{last}}, api.OK
}
