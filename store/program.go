package store

import (
	"pedigree/api"
	"pedigree/check"
	"pedigree/engine"
	"pedigree/term"
)

// program is a database's program, with what is asked of it again and again.
type program struct {
	rules    api.Program
	preds    map[string]struct{}  // that it has, by their names
	verdicts map[string]api.Errno // on facts of these, by the kinds of their values
}

// programOf takes one that is not refused.
func programOf(p api.Program) *program {
	out := &program{rules: copied(p), preds: map[string]struct{}{}, verdicts: map[string]api.Errno{}}
	preds, _ := check.Preds(p, nil)
	for _, x := range preds {
		out.preds[x.Name] = struct{}{}
	}
	return out
}

// copied takes a program whose rules may be used.
func copied(p api.Program) api.Program {
	var out api.Program
	for _, r := range p.Rules {
		own, _ := term.ApplyRule(nil, r)
		out.Rules = append(out.Rules, own)
	}
	return out
}

func (p *program) has(name string) bool {
	_, ok := p.preds[name]
	return ok
}

// refuses is why a fact by itself is refused.
func (p *program) refuses(f api.Fact) api.Errno {
	if r := engine.Fit(api.Program{}, []api.Fact{f}); r != (api.Refusal{}) {
		return r.Code
	}
	if !p.has(f.Pred) {
		return api.OK
	}
	// Fit finds the types of the whole program again, however many rules that are: it is asked once for all facts of the same kinds.
	key := kindsOf(f)
	verdict, known := p.verdicts[key]
	if !known {
		verdict = engine.Fit(p.rules, []api.Fact{f}).Code
		p.verdicts[key] = verdict
	}
	return verdict
}

// kindsOf tells a fact's predicate and the kinds of its values: no name has such letters.
func kindsOf(f api.Fact) string {
	out := f.Pred + " "
	for _, v := range f.Args {
		if v.Kind == api.KNum {
			out += "n"
		} else {
			out += "t"
		}
	}
	return out
}

// refusal is why a query is refused over facts in order of which each is not. (P28.1)
func (p *program) refusal(q api.Atom, l []api.Fact) api.Refusal {
	// One fact of its predicate says how many columns all of them have; and then it does not matter how many there are.
	l = ofName(l, q.Pred)
	return check.Input(p.rules, l[:min(1, len(l))], q)
}
