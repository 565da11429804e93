package term

import (
	"pedigree/api"
	"pedigree/value"
)

// kidCounts says, by the operations' numbers, how many kids an expression has.
var kidCounts = [...]int{
	api.OpTerm:  0,
	api.OpNeg:   1,
	api.OpAdd:   2,
	api.OpSub:   2,
	api.OpMul:   2,
	api.OpDiv:   2,
	api.OpMod:   2,
	api.OpCat:   2,
	api.OpLen:   1,
	api.OpChars: 1,
	api.OpBack:  1,
}

// CheckTerm, CheckExpr, CheckAtom, CheckLiteral, CheckRule: is it one as it may be? (P4.1)
func CheckTerm(t api.Term) api.Errno { return verdict(isTerm(t)) }

// CheckExpr: likewise.
func CheckExpr(e api.Expr) api.Errno { return verdict(isExpr(e, api.MaxDepth)) }

// CheckAtom: likewise.
func CheckAtom(a api.Atom) api.Errno { return verdict(isAtom(a)) }

// CheckLiteral: likewise.
func CheckLiteral(l api.Literal) api.Errno { return verdict(isLiteral(l)) }

// CheckRule: likewise.
func CheckRule(r api.Rule) api.Errno { return verdict(isRule(r)) }

func verdict(ok bool) api.Errno {
	if ok {
		return api.OK
	}
	return api.ErrTerm
}

func isTerm(t api.Term) bool {
	if t.Var == "" {
		return value.Check(t.Val) == api.OK
	}
	return t.Val == (api.Value{}) && (t.Var == blank || isVariable(t.Var))
}

// isNamed: is t a term that is no blank?
func isNamed(t api.Term) bool { return t.Var != blank && isTerm(t) }

// isExpr takes no more than room levels of kids for an expression: it ends early on one that is too deep.
func isExpr(e api.Expr, room int) bool {
	if room == 0 || e.Op < 0 || int(e.Op) >= len(kidCounts) || len(e.Kids) != kidCounts[e.Op] {
		return false
	}
	if e.Op == api.OpTerm {
		return isNamed(e.Term)
	}
	for _, kid := range e.Kids {
		if !isExpr(kid, room-1) {
			return false
		}
	}
	return e.Term == (api.Term{})
}

func isAtom(a api.Atom) bool {
	if !isName(a.Pred) || len(a.Args) > api.MaxWide {
		return false
	}
	for _, t := range a.Args {
		if !isTerm(t) {
			return false
		}
	}
	return true
}

func isLiteral(l api.Literal) bool {
	switch l.Kind {
	case api.LPos, api.LNot:
		return isAtom(l.Atom) && l.Rel == api.RelNone && isNoExpr(l.Left) && isNoExpr(l.Right)
	case api.LCmp:
		return l.Atom.Pred == "" && len(l.Atom.Args) == 0 && l.Rel >= api.RelEq && l.Rel <= api.RelGe &&
			isExpr(l.Left, api.MaxDepth) && isExpr(l.Right, api.MaxDepth)
	}
	return false
}

// isNoExpr: is e the zero Expr?
func isNoExpr(e api.Expr) bool {
	return e.Op == api.OpTerm && e.Term == (api.Term{}) && len(e.Kids) == 0
}

func isRule(r api.Rule) bool {
	if !isName(r.Pred) || len(r.Head) > api.MaxWide || len(r.Body) > api.MaxBody {
		return false
	}
	for _, arg := range r.Head {
		if !isArg(arg) {
			return false
		}
	}
	for _, l := range r.Body {
		if !isLiteral(l) {
			return false
		}
	}
	return len(RuleVars(r)) <= api.MaxVars
}

func isArg(arg api.Arg) bool {
	switch arg.Agg {
	case api.AggNone:
		return isNamed(arg.Term)
	case api.AggCount:
		return arg.Term == api.Term{}
	case api.AggSum, api.AggMin, api.AggMax:
		return isNamed(arg.Term) && arg.Term.Var != ""
	}
	return false
}

// isName leans on value.Show, which writes just the texts that are names as they stand.
func isName(s string) bool {
	shown, err := value.Show(api.Value{Kind: api.KText, Text: s})
	return err == api.OK && shown == s
}

func isVariable(s string) bool {
	if s == "" || len(s) > api.MaxLong || s[0] < 'A' || s[0] > 'Z' {
		return false
	}
	for i := range len(s) {
		if !isLetter(s[i]) && !isDigit(s[i]) && s[i] != '_' {
			return false
		}
	}
	return true
}

func isLetter(c byte) bool { return 'a' <= c && c <= 'z' || 'A' <= c && c <= 'Z' }

func isDigit(c byte) bool { return '0' <= c && c <= '9' }
