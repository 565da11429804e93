package parse

import (
	"pedigree/api"
	"pedigree/term"
)

// The words of the aggregates and the signs of the relations stand at their numbers.
var (
	aggregates = [...]string{api.AggCount: "count", api.AggSum: "sum", api.AggMin: "min", api.AggMax: "max"}
	relations  = [...]string{api.RelEq: "=", api.RelNe: "!=", api.RelLt: "<", api.RelLe: "<=", api.RelGt: ">", api.RelGe: ">="}
)

func (r *reader) program() api.Program { return api.Program{Rules: all(r, r.nextRule)} }

func (r *reader) nextRule() api.Rule {
	at := r.next().At
	rule := r.rule()
	limit(rule, at)
	return rule
}

func (r *reader) onlyRule() api.Rule {
	at := r.next().At
	rule := r.rule()
	r.mustEnd()
	limit(rule, at)
	return rule
}

func (r *reader) rule() api.Rule {
	rule := api.Rule{Pred: r.text(api.TokName), Head: columns(r, r.arg)}
	if r.take(":-") {
		rule.Body = list(r, r.literal)
	}
	r.must(".")
	return rule
}

// limit refuses a rule that is none as it may be. The grammar leaves nothing that could be wrong but how deep it is, and how much there is of something.
func limit(rule api.Rule, at int) {
	for _, l := range rule.Body {
		if term.Depth(l.Left) > api.MaxDepth || term.Depth(l.Right) > api.MaxDepth {
			panic(misfit{errDeep, at})
		}
	}
	if term.CheckRule(rule) != api.OK {
		panic(misfit{errMany, at})
	}
}

func (r *reader) arg() api.Arg {
	agg := aggregate(r.next())
	if agg == api.AggNone {
		return api.Arg{Term: r.named()}
	}
	r.at++
	out := api.Arg{Agg: agg}
	r.must("(")
	if agg != api.AggCount {
		out.Term.Var = r.text(api.TokVar)
	}
	r.must(")")
	return out
}

// aggregate answers which one the token says; AggNone: none.
func aggregate(t api.Token) api.Agg {
	for agg, word := range aggregates {
		if t.Kind == api.TokWord && t.Text == word {
			return api.Agg(agg)
		}
	}
	return api.AggNone
}

func (r *reader) literal() api.Literal { return r.literalReader()() }

// literalReader chooses by the next token what reads a literal that begins with it.
func (r *reader) literalReader() func() api.Literal {
	switch t := r.next(); t.Kind {
	case api.TokWord:
		if t.Text == "not" {
			return r.denial
		}
	case api.TokName:
		if behind := r.tokens[r.at+1]; relation(behind) == api.RelNone && !isBetween(operation(behind)) {
			return r.claim
		}
	}
	return r.comparison
}

func (r *reader) claim() api.Literal { return api.Literal{Kind: api.LPos, Atom: r.atom()} }

func (r *reader) denial() api.Literal {
	r.must("not")
	return api.Literal{Kind: api.LNot, Atom: r.atom()}
}

func (r *reader) comparison() api.Literal {
	left := r.expr()
	rel := relation(r.next())
	if rel == api.RelNone {
		panic(r.misfit(errSyntax))
	}
	r.at++
	return api.Literal{Kind: api.LCmp, Rel: rel, Left: left, Right: r.expr()}
}

// relation answers which one the token says; RelNone: none.
func relation(t api.Token) api.Rel {
	for rel, sign := range relations {
		if t.Kind == api.TokSign && t.Text == sign {
			return api.Rel(rel)
		}
	}
	return api.RelNone
}

func (r *reader) atom() api.Atom {
	return api.Atom{Pred: r.text(api.TokName), Args: columns(r, r.term)}
}

func (r *reader) query() api.Atom {
	at := r.next().At
	a := r.atom()
	r.must("?")
	r.mustEnd()
	if len(a.Args) > api.MaxWide {
		panic(misfit{errMany, at})
	}
	return a
}

func (r *reader) facts() []api.Fact { return all(r, r.fact) }

func (r *reader) fact() api.Fact {
	at := r.next().At
	f := api.Fact{Pred: r.text(api.TokName), Args: columns(r, r.ground)}
	r.must(".")
	if len(f.Args) > api.MaxWide {
		panic(misfit{errMany, at})
	}
	return f
}
