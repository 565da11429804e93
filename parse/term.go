package parse

import "pedigree/api"

func (r *reader) term() api.Term {
	if r.next().Kind == api.TokBlank {
		r.at++
		return api.Term{Var: "_"}
	}
	return r.named()
}

// named reads a term that is no blank.
func (r *reader) named() api.Term {
	if t := r.next(); t.Kind == api.TokVar {
		r.at++
		return api.Term{Var: t.Text}
	}
	return api.Term{Val: r.value()}
}

// ground reads a value of a fact.
func (r *reader) ground() api.Value {
	if kind := r.next().Kind; kind == api.TokVar || kind == api.TokBlank {
		panic(r.misfit(errGround))
	}
	return r.value()
}

func (r *reader) value() api.Value {
	if r.take("-") {
		return r.negative()
	}
	t := r.next()
	switch {
	case t.Kind == api.TokName || t.Kind == api.TokText:
		r.at++
		return api.Value{Kind: api.KText, Text: t.Text}
	case t.Kind == api.TokNum && t.Num >= 0:
		r.at++
		return api.Value{Kind: api.KNum, Num: t.Num}
	}
	panic(r.misfit(errSyntax))
}

// negative reads the number behind a minus. The one that is too great by itself may stand there: it is the least number, and stays so.
func (r *reader) negative() api.Value {
	t := r.next()
	if t.Kind != api.TokNum {
		panic(r.misfit(errSyntax))
	}
	r.at++
	return api.Value{Kind: api.KNum, Num: -t.Num}
}
