package parse

import "pedigree/api"

// The signs and words of the operations stand at their numbers. (That a minus is an OpNeg is told by its place.)
var operations = [...]string{
	api.OpAdd:   "+",
	api.OpSub:   "-",
	api.OpMul:   "*",
	api.OpDiv:   "/",
	api.OpMod:   "%",
	api.OpCat:   "&",
	api.OpLen:   "len",
	api.OpChars: "chars",
	api.OpBack:  "back",
}

// Of two operations the one that binds more is done first. Those of words have brackets, which say it.
var binds = [...]int{
	api.OpNeg:  3,
	api.OpAdd:  1,
	api.OpSub:  1,
	api.OpMul:  2,
	api.OpDiv:  2,
	api.OpMod:  2,
	api.OpCat:  1,
	api.OpBack: 0,
}

// operation answers which one the token says; OpTerm: none.
func operation(t api.Token) api.Op {
	for op, word := range operations {
		if (t.Kind == api.TokSign || t.Kind == api.TokWord) && t.Text == word {
			return api.Op(op)
		}
	}
	return api.OpTerm
}

// isBetween: does the operation's sign stand between two expressions?
func isBetween(op api.Op) bool { return op >= api.OpAdd && op <= api.OpCat }

// begun is an operation, or brackets, of which the end has not been read yet.
type begun struct {
	op      api.Op     // OpTerm: brackets that say nothing
	left    []api.Expr // the kid ahead of a sign that stands between two
	bracket bool
}

// with answers what has been begun when its last kid is e.
func (b begun) with(e api.Expr) api.Expr {
	if b.op == api.OpTerm {
		return e
	}
	return api.Expr{Op: b.op, Kids: append(b.left, e)}
}

// expr keeps what has been begun in a list of its own and does not call itself, since a source may open as many brackets as it has bytes.
func (r *reader) expr() api.Expr {
	var open []begun
terms:
	for {
		open = r.ahead(open)
		e := api.Expr{Term: r.named()}
		for {
			op := operation(r.next())
			open, e = finish(open, e, binds[op])
			if isBetween(op) {
				r.at++
				open = append(open, begun{op: op, left: []api.Expr{e}})
				continue terms
			}
			if len(open) == 0 {
				return e
			}
			r.must(")")
			last := len(open) - 1
			open, e = open[:last], open[last].with(e)
		}
	}
}

// ahead begins what stands ahead of a term: words, brackets, and each minus but that of a number.
func (r *reader) ahead(open []begun) []begun {
	for {
		op := operation(r.next())
		switch {
		case op == api.OpSub && r.tokens[r.at+1].Kind != api.TokNum:
			r.at++
			open = append(open, begun{op: api.OpNeg})
		case op >= api.OpLen:
			r.at++
			r.must("(")
			open = append(open, begun{op: op, bracket: true})
		case r.take("("):
			open = append(open, begun{bracket: true})
		default:
			return open
		}
	}
}

// finish ends, within the brackets that are open, what binds no less than what comes behind e.
func finish(open []begun, e api.Expr, bind int) ([]begun, api.Expr) {
	for last := len(open) - 1; last >= 0 && !open[last].bracket && binds[open[last].op] >= bind; last-- {
		open, e = open[:last], open[last].with(e)
	}
	return open, e
}
