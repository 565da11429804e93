package engine

import (
	"sort"

	"pedigree/api"
	"pedigree/check"
	"pedigree/depend"
	"pedigree/types"
)

// refused is the first thing for which a program, facts and a query over them are refused.
func refused(p api.Program, l []api.Fact, q api.Atom) api.Refusal {
	input := check.Input(p, l, q)
	if input.Part == api.PartProgram || input.Part == api.PartFacts {
		return input
	}
	if r := misfit(p, l); r != (api.Refusal{}) {
		return r
	}
	return input
}

// misfit is what is wrong with the types and the levels of a program and facts of which each by itself may be.
func misfit(p api.Program, l []api.Fact) api.Refusal {
	columns, rule, err := types.Infer(p)
	if err != api.OK {
		return api.Refusal{Part: api.PartProgram, Code: err, At: rule}
	}
	if at := firstUnfit(l, columns); at < len(l) {
		return api.Refusal{Part: api.PartFacts, Code: api.ErrType, At: at}
	}
	if _, rule, err := depend.Levels(p); err != api.OK {
		return api.Refusal{Part: api.PartProgram, Code: err, At: rule}
	}
	return api.Refusal{}
}

// firstUnfit is the number of the first fact that does not fit; if all do, how many there are.
func firstUnfit(l []api.Fact, columns []api.Sig) int {
	if types.Fits(l, columns) {
		return len(l)
	}
	return sort.Search(len(l), func(i int) bool { return !types.Fits(l[:i+1], columns) })
}

// unread is the refusal of a text that a parser doesn't read.
func unread(part api.Part, f api.Fault) api.Refusal {
	return api.Refusal{Part: part, Code: f.Code, At: f.At}
}
