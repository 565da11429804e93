package naive

import (
	"pedigree/api"
	"pedigree/join"
	"pedigree/term"
)

func haveNoAggregate(rules []api.Rule) bool {
	for _, r := range rules {
		if _, plain := term.Head(r); !plain {
			return false
		}
	}
	return true
}

// given answers what the rules give over the facts, rule by rule; one fact may stand there more than once.
func given(rules []api.Rule, l []api.Fact) []api.Fact {
	all := named{}
	for _, f := range l {
		all[f.Pred] = append(all[f.Pred], f)
	}
	var out []api.Fact
	for _, r := range rules {
		head, _ := term.Head(r)
		// What check.Job has taken, Solutions does not refuse; what the rules give has as many columns as their heads.
		solutions, _ := join.Solutions(r.Body, all.asked(r.Body))
		for _, binds := range solutions {
			out = append(out, under(head, binds))
		}
	}
	return out
}

// named has facts by their names.
type named map[string][]api.Fact

// asked answers the facts whose names stand in the body: where there are many rules, going through all facts for each would take far longer.
func (n named) asked(body []api.Literal) []api.Fact {
	var out []api.Fact
	stood := map[string]struct{}{}
	for _, lit := range body {
		name := lit.Atom.Pred
		if _, again := stood[name]; !again {
			stood[name] = struct{}{}
			out = append(out, n[name]...)
		}
	}
	return out
}

// under answers a head as a fact. Its rule is safe, so the binds have all its variables.
func under(head api.Atom, binds []api.Bind) api.Fact {
	f := api.Fact{Pred: head.Pred}
	for _, t := range head.Args {
		v, _ := term.Eval(api.Expr{Term: t}, binds)
		f.Args = append(f.Args, v)
	}
	return f
}
