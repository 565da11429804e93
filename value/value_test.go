package value_test

import (
	"math"
	"strings"
	"testing"

	"pedigree/api"
	"pedigree/value"
)

func num(n int64) api.Value { return api.Value{Kind: api.KNum, Num: n} }

func text(s string) api.Value { return api.Value{Kind: api.KText, Text: s} }

// notValues are structs that are none of the values, in each way in which one may not be.
func notValues() []api.Value {
	return []api.Value{
		{},
		{Kind: api.KNone, Num: 1},
		{Kind: api.KNone, Text: "a"},
		{Kind: api.KNum, Num: 5, Text: "a"},
		{Kind: api.KNum, Text: " "},
		{Kind: api.KText, Num: 1, Text: "a"},
		{Kind: api.KText, Num: -1},
		{Kind: api.KText, Num: math.MinInt64, Text: "a"},
		text(strings.Repeat("a", api.MaxText+1)),
		text(strings.Repeat("\xff", 70000)),
		{Kind: 3},
		{Kind: -1},
		{Kind: math.MaxInt8, Num: 5},
		{Kind: math.MinInt8, Text: "a"},
	}
}

func numbers() []int64 {
	return []int64{math.MinInt64, math.MinInt64 + 1, -4294967296, -1000, -7, -2, -1, 0, 1, 2, 3, 7, 1000, 3037000500, 4294967296, math.MaxInt64 - 1, math.MaxInt64}
}

func texts() []string {
	return []string{
		"", "a", "ab", "abc", "b", "B", "q_x", "not", "é", "éa", "aé", "日本語", "😀", "\U0010ffff",
		"\x00", "\x00\x00", "\x7f", "\x80", "\xff", "\x80\xc3", "\xc3", "\xc3\xa9", "\xc0\x80", "\xe2\x82", "\xe2\x82\xac",
		"\xed\xa0\x80", "\xf0\x9f\x98", "\xf4\x90\x80\x80", "\xef\xbf\xbd", "a\n\"\\\xff",
		strings.Repeat("a", 50), strings.Repeat("é", 50), strings.Repeat("a", 100), strings.Repeat("a", api.MaxText), strings.Repeat("\x80", api.MaxText),
	}
}

func values() []api.Value {
	var out []api.Value
	for _, n := range numbers() {
		out = append(out, num(n))
	}
	for _, s := range texts() {
		out = append(out, text(s))
	}
	return out
}

// P1.1
func TestCheck(t *testing.T) {
	for _, v := range values() {
		if e := value.Check(v); e != api.OK {
			t.Errorf("Check(%#v) = %d", v, e)
		}
	}
	for _, v := range notValues() {
		if e := value.Check(v); e != api.ErrValue {
			t.Errorf("Check(%#v) = %d, want ErrValue", v, e)
		}
	}
	for k := math.MinInt8; k <= math.MaxInt8; k++ {
		kind := api.Kind(k)
		ok := kind == api.KNum || kind == api.KText
		if e := value.Check(api.Value{Kind: kind}); (e == api.OK) != ok {
			t.Errorf("Check of the kind %d = %d", k, e)
		}
	}
}

// P1.2: the list rises strictly, so each pair's order is known by the places.
func TestCompare(t *testing.T) {
	rising := []api.Value{
		{Kind: math.MinInt8, Num: 9, Text: "z"},
		{Kind: -1, Num: 9, Text: "z"},
		{},
		{Text: "a"},
		{Num: 1},
		num(math.MinInt64),
		num(-2),
		num(-1),
		{Kind: api.KNum, Num: -1, Text: "a"},
		num(0),
		num(9),
		num(10),
		num(math.MaxInt64),
		{Kind: api.KText, Num: -1, Text: "z"},
		text(""),
		text("\x00"),
		text("10"),
		text("9"),
		text("B"),
		text("a"),
		text("a\x00"),
		text("ab"),
		text("b"),
		text("\x7f"),
		text("\x80"),
		text("\xc3\xa9"),
		text("\xff"),
		text("\xff" + strings.Repeat("a", 300)),
		{Kind: api.KText, Num: 1},
		{Kind: 3, Num: -5},
		{Kind: 3},
	}
	for i, a := range rising {
		for j, b := range rising {
			if got, want := value.Compare(a, b), sign(i-j); got != want {
				t.Errorf("Compare(%#v, %#v) = %d, want %d", a, b, got, want)
			}
		}
	}
}

func sign(n int) int {
	switch {
	case n < 0:
		return -1
	case n > 0:
		return 1
	}
	return 0
}

// P1.3: in the table, what each comparison says of a below b, of a the same as b, of a above b.
func TestHolds(t *testing.T) {
	for _, ladder := range [][2]api.Value{
		{num(3), text("0")},
		{num(math.MinInt64), num(math.MaxInt64)},
		{num(9), num(10)},
		{text(""), text("a")},
		{text("a"), text("\xff")},
		{text("10"), text("9")},
	} {
		low, high := ladder[0], ladder[1]
		pairs := [3][2]api.Value{{low, high}, {low, low}, {high, low}}
		for rel, want := range map[api.Rel][3]bool{
			api.RelNone: {false, false, false},
			api.RelEq:   {false, true, false},
			api.RelNe:   {true, false, true},
			api.RelLt:   {true, false, false},
			api.RelLe:   {true, true, false},
			api.RelGt:   {false, false, true},
			api.RelGe:   {false, true, true},
			7:           {false, false, false},
			-1:          {false, false, false},
			127:         {false, false, false},
			-128:        {false, false, false},
		} {
			for i, p := range pairs {
				if got := value.Holds(rel, p[0], p[1]); got != want[i] {
					t.Errorf("Holds(%d, %#v, %#v) = %#v", rel, p[0], p[1], got)
				}
			}
		}
	}
}

func TestHoldsNothingOfWhatIsNoValue(t *testing.T) {
	for rel := api.RelNone; rel <= api.RelGe; rel++ {
		for _, v := range notValues() {
			for _, w := range append(notValues(), num(1), text("a")) {
				if value.Holds(rel, v, w) || value.Holds(rel, w, v) {
					t.Errorf("Holds(%d, ..) with %#v and %#v", rel, v, w)
				}
			}
		}
	}
}
