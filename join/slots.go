package join

import (
	"pedigree/api"
	"pedigree/symbol"
	"pedigree/term"
)

// unlisted is the number of a value that has none in the table: it stands in no row.
const unlisted api.Sym = -1

// slot has what a variable is for now, as the value and as its number. A value that stands in the rule has one that stays as it is.
type slot struct {
	val api.Value
	sym api.Sym
}

// slots has one slot for each variable of a rule while its steps run.
type slots struct {
	table *symbol.Table
	vars  map[string]*slot
}

// of answers the slot of a term that is no blank.
func (s *slots) of(t api.Term) *slot {
	if t.Var == "" {
		out := &slot{}
		s.set(out, t.Val)
		return out
	}
	if s.vars[t.Var] == nil {
		s.vars[t.Var] = &slot{}
	}
	return s.vars[t.Var]
}

// set gives a slot a value, which need stand in no fact.
func (s *slots) set(to *slot, v api.Value) {
	sym, ok := s.table.Find(v)
	if !ok {
		sym = unlisted
	}
	*to = slot{v, sym}
}

// setNumber gives a slot the value of a number that the table has.
func (s *slots) setNumber(to *slot, sym api.Sym) {
	v, _ := s.table.Value(sym)
	*to = slot{v, sym}
}

// place is a column of an atom and the slot of its term.
type place struct {
	column int
	*slot
}

// side of a comparison.
type side struct {
	expr  api.Expr
	vars  []*slot
	binds []api.Bind // one for each of them
}

func (s *slots) side(e api.Expr) side {
	out := side{expr: e}
	for _, name := range term.ExprVars(e) {
		out.vars = append(out.vars, s.of(api.Term{Var: name}))
		out.binds = append(out.binds, api.Bind{Var: name})
	}
	return out
}

// value answers the side's value by what its variables are now; false: it has none.
func (s *side) value() (api.Value, bool) {
	for i, v := range s.vars {
		s.binds[i].Val = v.val
	}
	return term.Eval(s.expr, s.binds)
}
