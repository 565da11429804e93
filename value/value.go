// Package value is layer 1: numbers and texts, their order, their operations, their texts. See doc/01-value.md.
package value

import (
	"cmp"
	"strings"

	"pedigree/api"
)

// Check: is it a number or a text as values may be? (P1.1)
func Check(v api.Value) api.Errno {
	switch v.Kind {
	case api.KNum:
		if v.Text == "" {
			return api.OK
		}
	case api.KText:
		if v.Num == 0 && len(v.Text) <= api.MaxText {
			return api.OK
		}
	}
	return api.ErrValue
}

// Compare: -1, 0 or 1, by the order of all structs, which among values is the order of values. (P1.2)
func Compare(a, b api.Value) int {
	return cmp.Or(cmp.Compare(a.Kind, b.Kind), cmp.Compare(a.Num, b.Num), strings.Compare(a.Text, b.Text))
}

// Holds: does the comparison hold? What is no value compares with nothing. (P1.3)
func Holds(rel api.Rel, a, b api.Value) bool {
	if Check(a) != api.OK || Check(b) != api.OK {
		return false
	}
	order := Compare(a, b)
	switch rel {
	case api.RelEq:
		return order == 0
	case api.RelNe:
		return order != 0
	case api.RelLt:
		return order < 0
	case api.RelLe:
		return order <= 0
	case api.RelGt:
		return order > 0
	case api.RelGe:
		return order >= 0
	}
	return false
}

func number(n int64) api.Value { return api.Value{Kind: api.KNum, Num: n} }

func text(s string) api.Value { return api.Value{Kind: api.KText, Text: s} }
