package core

import (
	"strconv"

	"pedigree/api"
	"pedigree/term"
)

// freezer turns the variables and blanks of rules into texts that stand in none of some rules.
type freezer struct {
	taken map[string]int       // texts that stand in the rules, by how often
	texts map[string]api.Value // what the variables of the rule at hand are
	next  int                  // the number of the text that is tried next
}

func newFreezer(rules ...api.Rule) *freezer {
	f := &freezer{taken: map[string]int{}, texts: map[string]api.Value{}}
	for _, r := range rules {
		head, _ := term.Head(r)
		f.take(head)
		for _, l := range r.Body {
			f.take(l.Atom)
		}
	}
	return f
}

func (f *freezer) take(a api.Atom) {
	for _, t := range a.Args {
		if t.Val.Kind == api.KText {
			f.taken[t.Val.Text]++
		}
	}
}

// freeze answers the facts of a simple rule's body, and that of its head.
func (f *freezer) freeze(r api.Rule) ([]api.Fact, api.Fact) {
	clear(f.texts)
	f.next = 0
	for _, name := range term.RuleVars(r) {
		f.texts[name] = f.newText()
	}
	var body []api.Fact
	for _, l := range r.Body {
		body = append(body, f.fact(l.Atom))
	}
	head, _ := term.Head(r)
	return body, f.fact(head)
}

// newText answers the next text that is not taken.
func (f *freezer) newText() api.Value {
	for {
		s := "#" + strconv.Itoa(f.next)
		f.next++
		if f.taken[s] == 0 {
			return api.Value{Kind: api.KText, Text: s}
		}
	}
}

func (f *freezer) fact(a api.Atom) api.Fact {
	out := api.Fact{Pred: a.Pred}
	for _, t := range a.Args {
		out.Args = append(out.Args, f.value(t))
	}
	return out
}

func (f *freezer) value(t api.Term) api.Value {
	switch t.Var {
	case "":
		return t.Val
	case "_":
		return f.newText() // each blank is by itself
	}
	return f.texts[t.Var]
}
