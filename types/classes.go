package types

import (
	"cmp"
	"slices"

	"pedigree/api"
)

// spot is where a column is.
type spot struct {
	pred string
	at   int
}

// owner is where a variable is: those of two rules are unlike places.
type owner struct {
	rule int
	name string
}

type column struct {
	node
	spot
}

type variable struct{ node }

// operation is the types that are said of an operation's kids and of itself.
type operation struct{ kids, itself api.Type }

var operations = [...]operation{
	api.OpNeg:   {api.TyNum, api.TyNum},
	api.OpAdd:   {api.TyNum, api.TyNum},
	api.OpSub:   {api.TyNum, api.TyNum},
	api.OpMul:   {api.TyNum, api.TyNum},
	api.OpDiv:   {api.TyNum, api.TyNum},
	api.OpMod:   {api.TyNum, api.TyNum},
	api.OpCat:   {api.TyText, api.TyText},
	api.OpLen:   {api.TyText, api.TyNum},
	api.OpChars: {api.TyText, api.TyNum},
	api.OpBack:  {api.TyText, api.TyText},
}

// classes are those of the rules and Sigs that have been read.
type classes struct {
	columns   map[spot]*column
	variables map[owner]*variable
	torn      bool
	rule      int // that was read last, or is being read
}

func newClasses() *classes {
	return &classes{columns: map[spot]*column{}, variables: map[owner]*variable{}}
}

// see is handed each class that has grown: once one is torn, nothing mends it.
func (c *classes) see(top *node) { c.torn = c.torn || top.num && top.text }

func (c *classes) column(pred string, at int) *column {
	place := spot{pred, at}
	col := c.columns[place]
	if col == nil {
		col = &column{spot: place}
		c.columns[place] = col
	}
	return col
}

func (c *classes) variable(name string) *variable {
	place := owner{c.rule, name}
	v := c.variables[place]
	if v == nil {
		v = new(variable)
		c.variables[place] = v
	}
	return v
}

func (c *classes) readSigs(l []api.Sig) {
	for _, s := range l {
		for i, t := range s.Cols {
			c.see(c.column(s.Pred, i).say(t))
		}
	}
}

// read takes a rule that may be used.
func (c *classes) read(number int, r api.Rule) {
	c.rule = number
	for i, a := range r.Head {
		c.readArg(c.column(r.Pred, i), a)
	}
	for _, l := range r.Body {
		if l.Kind == api.LCmp {
			c.see(c.expr(l.Left).join(c.expr(l.Right)))
		} else {
			c.readAtom(l.Atom)
		}
	}
}

func (c *classes) readArg(col *column, a api.Arg) {
	switch a.Agg {
	case api.AggCount:
		c.see(col.say(api.TyNum))
	case api.AggSum:
		c.see(col.say(api.TyNum))
		c.see(c.variable(a.Term.Var).say(api.TyNum))
	default:
		c.see(col.join(c.term(a.Term)))
	}
}

func (c *classes) readAtom(a api.Atom) {
	for i, t := range a.Args {
		c.see(c.column(a.Pred, i).join(c.term(t)))
	}
}

// term gives each blank a node of its own: two of them have nothing to do with one another.
func (c *classes) term(t api.Term) *node {
	switch t.Var {
	case "":
		return &node{num: t.Val.Kind == api.KNum, text: t.Val.Kind == api.KText}
	case "_":
		return new(node)
	}
	return c.variable(t.Var).top()
}

func (c *classes) expr(e api.Expr) *node {
	if e.Op == api.OpTerm {
		return c.term(e.Term)
	}
	said := operations[e.Op]
	for _, kid := range e.Kids {
		c.see(c.expr(kid).say(said.kids))
	}
	return new(node).say(said.itself)
}

// types are those of variables of the rule that was read last.
func (c *classes) types(names []string) []api.Type {
	var out []api.Type
	for _, name := range names {
		out = append(out, c.variable(name).said())
	}
	return out
}

// sigs takes all predicates, in order: one without columns stands nowhere in the map.
func (c *classes) sigs(preds []api.Pred) []api.Sig {
	var cols []*column
	for _, col := range c.columns {
		cols = append(cols, col)
	}
	slices.SortFunc(cols, func(a, b *column) int {
		return cmp.Or(cmp.Compare(a.pred, b.pred), cmp.Compare(a.at, b.at))
	})
	var out []api.Sig
	for _, p := range preds {
		s := api.Sig{Pred: p.Name}
		for _, col := range cols[:p.Arity] {
			s.Cols = append(s.Cols, col.said())
		}
		out = append(out, s)
		cols = cols[p.Arity:]
	}
	return out
}
