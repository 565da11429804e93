package value

import (
	"slices"

	"pedigree/api"
)

// taking is the way in which an operation takes its values.
type taking int8

const (
	takesNothing taking = iota // no operation
	takesNumber
	takesTwoNumbers
	takesText
	takesTwoTexts
)

// takings says, by the operations' numbers, how each takes its values.
var takings = [...]taking{
	api.OpTerm:  takesNothing,
	api.OpNeg:   takesNumber,
	api.OpAdd:   takesTwoNumbers,
	api.OpSub:   takesTwoNumbers,
	api.OpMul:   takesTwoNumbers,
	api.OpDiv:   takesTwoNumbers,
	api.OpMod:   takesTwoNumbers,
	api.OpCat:   takesTwoTexts,
	api.OpLen:   takesText,
	api.OpChars: takesText,
	api.OpBack:  takesText,
}

// Arith: what the operation gives; false: nothing. (P1.4)
func Arith(op api.Op, l ...api.Value) (api.Value, bool) {
	switch takingOf(op) {
	case takesNumber:
		if areValues(l, 1, api.KNum) {
			return number(-l[0].Num), true
		}
	case takesTwoNumbers:
		if areValues(l, 2, api.KNum) {
			return ofNumbers(op, l[0].Num, l[1].Num)
		}
	case takesText:
		if areValues(l, 1, api.KText) {
			return ofText(op, l[0].Text)
		}
	case takesTwoTexts:
		if areValues(l, 2, api.KText) {
			return join(l[0].Text, l[1].Text)
		}
	}
	return api.Value{}, false
}

func takingOf(op api.Op) taking {
	if op < 0 || int(op) >= len(takings) {
		return takesNothing
	}
	return takings[op]
}

func areValues(l []api.Value, count int, kind api.Kind) bool {
	for _, v := range l {
		if v.Kind != kind || Check(v) != api.OK {
			return false
		}
	}
	return len(l) == count
}

func ofNumbers(op api.Op, a, b int64) (api.Value, bool) {
	switch op {
	case api.OpAdd:
		return number(a + b), true
	case api.OpSub:
		return number(a - b), true
	case api.OpMul:
		return number(a * b), true
	}
	quotient, rest, ok := divide(a, b)
	if !ok {
		return api.Value{}, false
	}
	if op == api.OpDiv {
		return number(quotient), true
	}
	return number(rest), true
}

// divide answers false where the division faults: the language's own fault is the test for a 0, so there is none ahead of it.
func divide(a, b int64) (quotient, rest int64, ok bool) {
	defer func() {
		if recover() != nil {
			quotient, rest, ok = 0, 0, false
		}
	}()
	return a / b, a % b, true
}

func ofText(op api.Op, s string) (api.Value, bool) {
	switch op {
	case api.OpLen:
		return number(int64(len(s))), true
	case api.OpChars:
		return number(int64(len(characterStarts(s)))), true
	}
	return text(backwards(s)), true
}

func join(a, b string) (api.Value, bool) {
	if len(a)+len(b) > api.MaxText {
		return api.Value{}, false
	}
	return text(a + b), true
}

// characterStarts leans on range: where no encoding stands, it too goes on by one byte.
func characterStarts(s string) []int {
	var starts []int
	for i := range s {
		starts = append(starts, i)
	}
	return starts
}

// backwards moves the characters' bytes as they stand: written out from runes, a byte that belongs to no encoding would be lost.
func backwards(s string) string {
	out := make([]byte, 0, len(s))
	end := len(s)
	for _, start := range slices.Backward(characterStarts(s)) {
		out = append(out, s[start:end]...)
		end = start
	}
	return string(out)
}
