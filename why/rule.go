package why

import (
	"slices"

	"pedigree/api"
	"pedigree/term"
)

// nowhere is the place of what stands in no solution.
const nowhere = -1

// column says where a term's value comes from.
type column struct {
	at  int       // the variable's place in the solutions; nowhere: the term is no variable
	val api.Value // then this is the value; of a blank the zero Value
}

// shape is an atom, or a head, all whose variables stand in the solutions of a body.
type shape struct {
	pred    string
	columns []column
	known   api.Mask // the columns that are no blanks
}

func newShape(pred string, terms []api.Term, names []string) shape {
	out := shape{pred: pred}
	for i, t := range terms {
		out.columns = append(out.columns, column{slices.Index(names, t.Var), t.Val})
		if t.Var != blank {
			out.known |= 1 << i
		}
	}
	return out
}

// under answers what the shape is under a solution, with the zero Value where a blank stands.
func (s *shape) under(solution []api.Bind) api.Fact {
	args := slices.Grow([]api.Value(nil), len(s.columns))
	for _, c := range s.columns {
		if c.at != nowhere {
			c.val = solution[c.at].Val
		}
		args = append(args, c.val)
	}
	return api.Fact{Pred: s.pred, Args: args}
}

// literal of a body; the shape of a comparison is the zero one.
type literal struct {
	shape
	kind api.LitKind
}

// leaf answers the kid for a literal that is no LPos.
func (l *literal) leaf(solution []api.Bind) api.Proof {
	if l.kind == api.LNot {
		return api.Proof{Kind: api.ProofAbsent, Fact: l.under(solution)}
	}
	return api.Proof{Kind: api.ProofTrue}
}

// rule is one that may be used, ready to be held against solutions of its body.
type rule struct {
	api.Rule
	number int
	plain  bool  // it has no aggregate
	gives  shape // the head; a blank stands for an aggregate
	lits   []literal
	told   []int // the places in a solution of the variables that a proof tells
}

func newRule(number int, r api.Rule) *rule {
	// All solutions have the body's variables in this order.
	names := term.RuleVars(api.Rule{Body: r.Body})
	terms := plainTerms(r.Head)
	out := &rule{Rule: r, number: number, gives: newShape(r.Pred, terms, names)}
	for _, l := range r.Body {
		out.lits = append(out.lits, literal{newShape(l.Atom.Pred, l.Atom.Args, names), l.Kind})
	}
	told := names
	if _, out.plain = term.Head(r); !out.plain {
		told = term.AtomVars(api.Atom{Args: terms})
	}
	for _, name := range told {
		out.told = append(out.told, slices.Index(names, name))
	}
	return out
}

// plainTerms are the terms of a head, with a blank for each aggregate.
func plainTerms(head []api.Arg) []api.Term {
	var out []api.Term
	for _, a := range head {
		if a.Agg != api.AggNone {
			a.Term = api.Term{Var: blank}
		}
		out = append(out, a.Term)
	}
	return out
}

// way is how a rule gives a fact of the model: through a solution, or, if it has aggregates, through a group of them.
type way struct {
	*rule
	at        int // the fact's place in the model
	solutions [][]api.Bind
	waits     int // so many kids there are for which no proof is known yet
}

// size is how many kids a proof by this way has.
func (v *way) size() int { return len(v.solutions) * len(v.lits) }

// kid answers the literal and the solution for which the i-th kid is.
func (v *way) kid(i int) (*literal, []api.Bind) {
	return &v.lits[i%len(v.lits)], v.solutions[i/len(v.lits)]
}

// binds are those that a proof by this way tells; the solutions of a group agree in them.
func (v *way) binds() []api.Bind {
	var out []api.Bind
	for _, at := range v.told {
		out = append(out, v.solutions[0][at])
	}
	return out
}
