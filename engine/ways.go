package engine

import (
	"pedigree/api"
	"pedigree/depend"
	"pedigree/magic"
	"pedigree/model"
	"pedigree/par"
	"pedigree/table"
)

// How many workers there are makes no difference to an answer; several are asked for.
const workers = 4

// A way comes to a query's answers over a program and facts that fit.
type way interface {
	answers(p api.Program, l []api.Fact, q api.Atom) ([][]api.Value, api.Errno)
}

func wayOf(w api.Way) (way, bool) {
	switch w {
	case api.WayModel:
		return byModel{}, true
	case api.WayMagic:
		return byMagic{}, true
	case api.WayTable:
		return byTable{}, true
	case api.WayPar:
		return byPar{workers}, true
	}
	return nil, false
}

type byModel struct{}

func (byModel) answers(p api.Program, l []api.Fact, q api.Atom) ([][]api.Value, api.Errno) {
	m, err := model.Model(p, l)
	return model.Answers(q, m), err
}

type byPar struct{ workers int }

func (w byPar) answers(p api.Program, l []api.Fact, q api.Atom) ([][]api.Value, api.Errno) {
	m, err := par.Model(p, l, w.workers, nil)
	return model.Answers(q, m), err
}

type byMagic struct{}

func (byMagic) answers(p api.Program, l []api.Fact, q api.Atom) ([][]api.Value, api.Errno) {
	rules, m, err := ahead(p, l)
	if err != api.OK {
		return nil, err
	}
	tuples, _, err := magic.Solve(rules, m, q)
	return tuples, err
}

type byTable struct{}

func (byTable) answers(p api.Program, l []api.Fact, q api.Atom) ([][]api.Value, api.Errno) {
	rules, m, err := ahead(p, l)
	if err != api.OK {
		return nil, err
	}
	tuples, _, err := table.Solve(rules, m, q)
	return tuples, err
}

// ahead are the rules that a goal may direct, with the facts over which it does: what is worked out ahead of them.
func ahead(p api.Program, l []api.Fact) ([]api.Rule, []api.Fact, api.Errno) {
	first, plain := depend.Split(p)
	m, err := model.Model(first, l)
	return plain.Rules, m, err
}
