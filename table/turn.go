package table

import (
	"slices"

	"pedigree/api"
	"pedigree/term"
)

// rule is one that was handed in, with the variables of each of its literals, which are looked at again for each pattern.
type rule struct {
	api.Rule
	vars [][]string
}

func newRule(r api.Rule) *rule {
	out := &rule{Rule: r}
	for _, l := range r.Body {
		out.vars = append(out.vars, term.LiteralVars(l))
	}
	return out
}

// turn is where the asking of a rule's body stands: which of its literals are left, by their numbers, and which variables are known.
type turn struct {
	*rule
	left  []int
	known []string
}

func newTurn(r *rule, known []string) *turn {
	return &turn{rule: r, left: numbers(len(r.Body)), known: slices.Clone(known)}
}

// next answers the literal that is asked next, as a step; false: none is left.
func (t *turn) next() (*step, bool) {
	for _, may := range []func(int) bool{t.isTest, t.isAtom, t.isGiver} {
		if at := slices.IndexFunc(t.left, may); at >= 0 {
			s := t.step(t.left[at])
			t.left = slices.Delete(t.left, at, at+1)
			t.known = append(t.known, s.free.gives...)
			return s, true
		}
	}
	return nil, false
}

func (t *turn) isTest(i int) bool { return !t.isAtom(i) && t.knows(t.vars[i]) }

func (t *turn) isAtom(i int) bool { return t.Body[i].Kind == api.LPos }

// isGiver: is it an equation that gives a variable? The rule is safe: so where no atom is left and nothing can be tested, one does.
func (t *turn) isGiver(i int) bool {
	l := t.Body[i]
	return l.Rel == api.RelEq && (t.gives(l.Left, l.Right) || t.gives(l.Right, l.Left))
}

// gives: does the equation of a lone variable with another expression tell what it is?
func (t *turn) gives(lone, other api.Expr) bool {
	name := lone.Term.Var // an operation has none
	return name != "" && !slices.Contains(t.known, name) && t.knows(term.ExprVars(other))
}

func (t *turn) knows(names []string) bool {
	for _, name := range names {
		if !slices.Contains(t.known, name) {
			return false
		}
	}
	return true
}

// step answers the literal of a number at its turn.
func (t *turn) step(i int) *step {
	out := &step{Literal: t.Body[i], names: t.vars[i]}
	if out.Kind != api.LCmp {
		out.pattern = patternOf(out.Atom, t.known)
		out.known = pick(out.Atom.Args, columnsOf(out.pattern, 'b'))
		free := columnsOf(out.pattern, 'f')
		out.free = newShape(pick(out.Atom.Args, free), free)
	} else if !t.isTest(i) {
		if !t.gives(out.Left, out.Right) {
			out.Left, out.Right = out.Right, out.Left // so the one that is given is always on the left
		}
		out.free = newShape([]api.Term{out.Left.Term}, numbers(1))
	}
	return out
}

// patternOf answers the pattern of an atom, where some variables are known.
func patternOf(a api.Atom, known []string) string {
	out := make([]byte, len(a.Args))
	for i, t := range a.Args {
		out[i] = 'f'
		if t.Var == "" || slices.Contains(known, t.Var) {
			out[i] = 'b'
		}
	}
	return string(out)
}

// columnsOf are those where a pattern has a b, or an f.
func columnsOf(pattern string, c byte) []int {
	var out []int
	for i := range len(pattern) {
		if pattern[i] == c {
			out = append(out, i)
		}
	}
	return out
}

func pick(terms []api.Term, columns []int) []api.Term {
	var out []api.Term
	for _, i := range columns {
		out = append(out, terms[i])
	}
	return out
}

func numbers(n int) []int {
	var out []int
	for i := range n {
		out = append(out, i)
	}
	return out
}
