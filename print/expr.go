package print

import "pedigree/api"

// The signs and words of the operations stand at their numbers.
var operations = [...]string{
	api.OpNeg:   "-",
	api.OpAdd:   "+",
	api.OpSub:   "-",
	api.OpMul:   "*",
	api.OpDiv:   "/",
	api.OpMod:   "%",
	api.OpCat:   "&",
	api.OpLen:   "len",
	api.OpChars: "chars",
	api.OpBack:  "back",
}

// How fast an expression holds together stands at its operation's number.
var holds = [...]int{
	api.OpTerm:  4,
	api.OpNeg:   3,
	api.OpAdd:   1,
	api.OpSub:   1,
	api.OpMul:   2,
	api.OpDiv:   2,
	api.OpMod:   2,
	api.OpCat:   1,
	api.OpLen:   4,
	api.OpChars: 4,
	api.OpBack:  4,
}

func (w *writer) expr(e api.Expr) {
	switch e.Op {
	case api.OpTerm:
		w.term(e.Term)
	case api.OpNeg:
		w.put(operations[e.Op])
		w.kid(e.Kids[0], holds[e.Kids[0].Op] < holds[e.Op] || isUnsigned(e.Kids[0]))
	case api.OpLen, api.OpChars, api.OpBack:
		w.put(operations[e.Op])
		w.kid(e.Kids[0], true)
	default:
		w.kid(e.Kids[0], holds[e.Kids[0].Op] < holds[e.Op])
		w.put(" ", operations[e.Op], " ")
		w.kid(e.Kids[1], holds[e.Kids[1].Op] <= holds[e.Op])
	}
}

func (w *writer) kid(e api.Expr, brackets bool) {
	if !brackets {
		w.expr(e)
		return
	}
	w.put("(")
	w.expr(e)
	w.put(")")
}

// isUnsigned: is e a number that is written without a minus? Right behind one it would be read as another number.
func isUnsigned(e api.Expr) bool {
	return e.Op == api.OpTerm && e.Term.Val.Kind == api.KNum && e.Term.Val.Num >= 0
}
