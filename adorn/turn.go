package adorn

import (
	"slices"

	"pedigree/api"
	"pedigree/term"
)

// rule is one that was handed in, with the variables of each of its literals, which are looked at again for each pair.
type rule struct {
	api.Rule
	vars [][]string
}

func newRule(r api.Rule) *rule {
	out := &rule{Rule: r}
	for _, l := range r.Body {
		out.vars = append(out.vars, term.LiteralVars(l))
	}
	return out
}

// turn is where the asking of a rule's body stands: which of its literals are left, by their numbers, and what is known.
type turn struct {
	*rule
	left  []int
	known names
}

// begin answers how things stand ahead of the first literal, where the rule is asked by a pattern.
func (r *rule) begin(pattern string) *turn {
	t := &turn{rule: r, known: names{}}
	for i, arg := range r.Head {
		if pattern[i] == 'b' {
			t.known.learn([]string{arg.Term.Var}) // the empty Var of a value does no harm: no variable is it
		}
	}
	for i := range r.Body {
		t.left = append(t.left, i)
	}
	return t
}

// take answers the number of the literal that is asked next, which is left no more; false: none is left.
func (t *turn) take() (int, bool) {
	for _, may := range []func(int) bool{t.isTest, t.isAtom, t.isGiver} {
		if at := slices.IndexFunc(t.left, may); at >= 0 {
			i := t.left[at]
			t.left = slices.Delete(t.left, at, at+1)
			return i, true
		}
	}
	return 0, false
}

func (t *turn) isTest(i int) bool { return !t.isAtom(i) && t.known.hasAll(t.vars[i]) }

func (t *turn) isAtom(i int) bool { return t.Body[i].Kind == api.LPos }

// isGiver: is it an equation that gives a variable? The rule is safe: so where no atom is left and nothing can be tested, one does.
func (t *turn) isGiver(i int) bool {
	l := t.Body[i]
	return l.Rel == api.RelEq && (t.known.gives(l.Left, l.Right) || t.known.gives(l.Right, l.Left))
}
