package value_test

import (
	"math"
	"math/big"
	"strings"
	"testing"

	"pedigree/api"
	"pedigree/value"
)

func mustArith(t *testing.T, op api.Op, l ...api.Value) api.Value {
	t.Helper()
	v, ok := value.Arith(op, l...)
	if !ok {
		t.Fatalf("Arith(%d, %#v) gives nothing", op, l)
	}
	return v
}

func wantNothing(t *testing.T, op api.Op, l ...api.Value) {
	t.Helper()
	if v, ok := value.Arith(op, l...); ok || v != (api.Value{}) {
		t.Errorf("Arith(%d, %#v) = %#v, %#v; want nothing", op, l, v, ok)
	}
}

// wrapped is the number of 64 bits with a sign that differs from n by a multiple of 2^64.
func wrapped(n *big.Int) api.Value {
	all := new(big.Int).Lsh(big.NewInt(1), 64)
	r := new(big.Int).Mod(n, all)
	if r.BitLen() == 64 {
		r.Sub(r, all)
	}
	return num(r.Int64())
}

// P1.4: numbers, held against numbers without bounds.
func TestArithOfNumbers(t *testing.T) {
	for _, a := range numbers() {
		x := big.NewInt(a)
		if got, want := mustArith(t, api.OpNeg, num(a)), wrapped(new(big.Int).Neg(x)); got != want {
			t.Errorf("0 - %d = %#v, want %#v", a, got, want)
		}
		for _, b := range numbers() {
			y := big.NewInt(b)
			wants := map[api.Op]*big.Int{api.OpAdd: new(big.Int).Add(x, y), api.OpSub: new(big.Int).Sub(x, y), api.OpMul: new(big.Int).Mul(x, y)}
			if b == 0 {
				wantNothing(t, api.OpDiv, num(a), num(b))
				wantNothing(t, api.OpMod, num(a), num(b))
			} else {
				wants[api.OpDiv], wants[api.OpMod] = new(big.Int).QuoRem(x, y, new(big.Int))
			}
			for op, want := range wants {
				if got := mustArith(t, op, num(a), num(b)); got != wrapped(want) {
					t.Errorf("Arith(%d, %d, %d) = %#v, want %#v", op, a, b, got, wrapped(want))
				}
			}
		}
	}
}

// P1.4: what the document's examples say.
func TestArithExamples(t *testing.T) {
	const least = math.MinInt64
	for _, c := range []struct {
		op   api.Op
		l    []api.Value
		want api.Value
	}{
		{api.OpDiv, []api.Value{num(-7), num(2)}, num(-3)},
		{api.OpMod, []api.Value{num(-7), num(2)}, num(-1)},
		{api.OpMod, []api.Value{num(7), num(-2)}, num(1)},
		{api.OpNeg, []api.Value{num(least)}, num(least)},
		{api.OpDiv, []api.Value{num(least), num(-1)}, num(least)},
		{api.OpMod, []api.Value{num(least), num(-1)}, num(0)},
		{api.OpAdd, []api.Value{num(math.MaxInt64), num(1)}, num(least)},
		{api.OpLen, []api.Value{text("\xc3\xa9a")}, num(3)},
		{api.OpChars, []api.Value{text("\xc3\xa9a")}, num(2)},
		{api.OpBack, []api.Value{text("\xc3\xa9a")}, text("a\xc3\xa9")},
		{api.OpChars, []api.Value{text("\xed\xa0\x80")}, num(3)},
		{api.OpChars, []api.Value{text("\xc0\x80")}, num(2)},
		{api.OpChars, []api.Value{text("\xe2\x82")}, num(2)},
		{api.OpBack, []api.Value{text("\x80\xc3")}, text("\xc3\x80")},
		{api.OpLen, []api.Value{text("")}, num(0)},
		{api.OpChars, []api.Value{text("")}, num(0)},
		{api.OpBack, []api.Value{text("")}, text("")},
		{api.OpCat, []api.Value{text(""), text("")}, text("")},
		{api.OpCat, []api.Value{text("a"), text("b")}, text("ab")},
	} {
		if got := mustArith(t, c.op, c.l...); got != c.want {
			t.Errorf("Arith(%d, %#v) = %#v, want %#v", c.op, c.l, got, c.want)
		}
	}
	wantNothing(t, api.OpDiv, num(7), num(0))
	wantNothing(t, api.OpAdd, num(1))
	wantNothing(t, api.OpAdd, num(1), text("a"))
}

func TestArithCat(t *testing.T) {
	for n := range api.MaxText + 1 {
		a, b := strings.Repeat("\xff", n), strings.Repeat("b", api.MaxText-n)
		if got := mustArith(t, api.OpCat, text(a), text(b)); got != text(a+b) {
			t.Errorf("OpCat of %d and %d bytes = %#v", len(a), len(b), got)
		}
		if n > 0 {
			wantNothing(t, api.OpCat, text(a), text(b+"c"))
			wantNothing(t, api.OpCat, text(b+"c"), text(a))
		}
	}
	wantNothing(t, api.OpCat, text(strings.Repeat("a", api.MaxText)), text(strings.Repeat("a", api.MaxText)))
}

// P1.4: operations that are none, and all counts and kinds of values but those that each operation takes.
func TestArithGivesNothing(t *testing.T) {
	takes := map[api.Op][]api.Kind{
		api.OpNeg: {api.KNum}, api.OpAdd: {api.KNum, api.KNum}, api.OpSub: {api.KNum, api.KNum}, api.OpMul: {api.KNum, api.KNum},
		api.OpDiv: {api.KNum, api.KNum}, api.OpMod: {api.KNum, api.KNum}, api.OpCat: {api.KText, api.KText},
		api.OpLen: {api.KText}, api.OpChars: {api.KText}, api.OpBack: {api.KText},
	}
	one := [3]api.Value{api.KNum: num(1), api.KText: text("a")}
	for o := math.MinInt8; o <= math.MaxInt8; o++ {
		op := api.Op(o)
		for _, kinds := range kindLists(4) {
			var l []api.Value
			for _, k := range kinds {
				l = append(l, one[k])
			}
			want, known := takes[op]
			should := known && sameKinds(kinds, want)
			if _, ok := value.Arith(op, l...); ok != should {
				t.Errorf("Arith(%d, %#v) is %#v", op, l, ok)
			}
			if !should {
				wantNothing(t, op, l...)
			}
		}
	}
}

// kindLists are all lists of at most that many kinds of values.
func kindLists(most int) [][]api.Kind {
	out := [][]api.Kind{nil}
	for at := 0; at < len(out); at++ {
		if l := out[at]; len(l) < most {
			out = append(out, append(append([]api.Kind(nil), l...), api.KNum), append(append([]api.Kind(nil), l...), api.KText))
		}
	}
	return out
}

func sameKinds(a, b []api.Kind) bool {
	if len(a) != len(b) {
		return false
	}
	for i := range a {
		if a[i] != b[i] {
			return false
		}
	}
	return true
}

func TestArithOfWhatIsNoValue(t *testing.T) {
	for op := api.OpTerm; op <= api.OpBack; op++ {
		for _, v := range notValues() {
			wantNothing(t, op, v)
			for _, w := range append(notValues(), num(1), text("a")) {
				wantNothing(t, op, v, w)
				wantNothing(t, op, w, v)
			}
		}
	}
	wantNothing(t, api.OpAdd, make([]api.Value, 100000)...)
}

// firstChar tells how many bytes the first character has, by the document's words: an encoding of the shortest form of a code point, or one byte.
func firstChar(s string) int {
	for width := 1; width <= 4 && width <= len(s); width++ {
		if encodes(s[:width]) {
			return width
		}
	}
	return 1
}

func encodes(s string) bool {
	lead := [5]struct{ mask, mark byte }{1: {0x80, 0}, 2: {0xe0, 0xc0}, 3: {0xf0, 0xe0}, 4: {0xf8, 0xf0}}[len(s)]
	least := [5]int{1: 0, 2: 0x80, 3: 0x800, 4: 0x10000}[len(s)]
	if s[0]&lead.mask != lead.mark {
		return false
	}
	point := int(s[0] &^ lead.mask)
	for i := 1; i < len(s); i++ {
		if s[i]&0xc0 != 0x80 {
			return false
		}
		point = point<<6 | int(s[i]&0x3f)
	}
	return point >= least && point <= 1114111 && (point < 55296 || point > 57343)
}

func chars(s string) []string {
	var out []string
	for len(s) > 0 {
		width := firstChar(s)
		out = append(out, s[:width])
		s = s[width:]
	}
	return out
}

func backwards(s string) string {
	out := ""
	for _, c := range chars(s) {
		out = c + out
	}
	return out
}

func checkCharacters(t *testing.T, s string) {
	t.Helper()
	if got, want := mustArith(t, api.OpChars, text(s)), num(int64(len(chars(s)))); got != want {
		t.Fatalf("OpChars of %q = %#v, want %#v", s, got, want)
	}
	if got, want := mustArith(t, api.OpBack, text(s)), text(backwards(s)); got != want {
		t.Fatalf("OpBack of %q = %#v, want %#v", s, got, want)
	}
}

// P1.4: the bytes at which the forms of UTF-8 turn, in all texts of at most four of them, and every code point.
func TestArithCharacters(t *testing.T) {
	edges := []byte{0x00, 0x61, 0x7f, 0x80, 0x8f, 0x90, 0x9f, 0xa0, 0xbf, 0xc0, 0xc1, 0xc2, 0xdf, 0xe0, 0xe1, 0xec, 0xed, 0xee, 0xef, 0xf0, 0xf1, 0xf3, 0xf4, 0xf5, 0xf8, 0xfe, 0xff}
	short := []string{""}
	for at := 0; at < len(short); at++ {
		checkCharacters(t, short[at])
		for _, b := range edges {
			if len(short[at]) < 4 {
				short = append(short, short[at]+string([]byte{b}))
			}
		}
	}
	for point := range rune(1114112) {
		s := string(point)
		if point >= 55296 && point <= 57343 {
			s = string([]byte{0xe0 | byte(point>>12), 0x80 | byte(point>>6)&0x3f, 0x80 | byte(point)&0x3f})
		}
		checkCharacters(t, s)
	}
	for _, s := range texts() {
		checkCharacters(t, s)
	}
}
