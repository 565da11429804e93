package value_test

import (
	"slices"
	"testing"
	"unicode/utf8"

	"pedigree/api"
	"pedigree/value"
)

// checkOrder: of two unlike ones just one is below the other, and what is below something below a third is below that.
func checkOrder[T any](t *testing.T, l []T, compare func(a, b T) int, same func(a, b T) bool) {
	t.Helper()
	for _, a := range l {
		for _, b := range l {
			ab, ba := compare(a, b), compare(b, a)
			if ab != -ba || (ab == 0) != same(a, b) || ab < -1 || ab > 1 {
				t.Errorf("%#v and %#v compare as %d and %d", a, b, ab, ba)
			}
			for _, c := range l {
				if ab < 0 && compare(b, c) < 0 && compare(a, c) >= 0 {
					t.Errorf("%#v, %#v, %#v: the order is none", a, b, c)
				}
			}
		}
	}
}

// P1.9: the orders.
func TestOrdersAreOrders(t *testing.T) {
	all := append(values(), notValues()...)
	checkOrder(t, all, value.Compare, func(a, b api.Value) bool { return a == b })
	var tuples [][]api.Value
	var facts []api.Fact
	for i, v := range all {
		tuples = append(tuples, []api.Value{v}, all[i/2:i])
		facts = append(facts, api.Fact{Pred: v.Text, Args: all[i/2 : i]})
	}
	checkOrder(t, shuffled(tuples[:60]), value.CompareTuples, sameTuple)
	checkOrder(t, facts, value.CompareFacts, sameFact)
}

// P1.9: Read undoes Show, Show undoes Read, and what is shown has bytes from 32 to 126 alone.
func TestReadAndShowUndoEachOther(t *testing.T) {
	shown := map[string]api.Value{}
	for _, v := range append(values(), manyTexts()...) {
		s, e := value.Show(v)
		if e != api.OK {
			t.Fatalf("Show(%#v) = %d", v, e)
		}
		if w, e := value.Read(s); w != v || e != api.OK {
			t.Errorf("Read(%s) = %#v, %d; want %#v", s, w, e, v)
		}
		if w, ok := shown[s]; ok && w != v {
			t.Errorf("%#v and %#v are both shown as %s", v, w, s)
		}
		shown[s] = v
		if slices.ContainsFunc([]byte(s), func(c byte) bool { return c < 32 || c > 126 }) {
			t.Errorf("%q is shown with other bytes", s)
		}
	}
	for s := range sources() {
		v, e := value.Read(s)
		if e != api.OK {
			continue
		}
		if told, e := value.Show(v); told != s || e != api.OK {
			t.Errorf("Show(Read(%q)) = %q, %d", s, told, e)
		}
	}
}

// manyTexts are all texts of two bytes.
func manyTexts() []api.Value {
	var out []api.Value
	for n := range 65536 {
		out = append(out, text(string([]byte{byte(n >> 8), byte(n)})))
	}
	return out
}

// sources are all texts of at most six of the bytes that mean something to Read.
func sources() func(yield func(string) bool) {
	const letters = "\"\\xna0-fZ"
	return func(yield func(string) bool) {
		row := []string{""}
		for range 7 {
			var next []string
			for _, s := range row {
				if !yield(s) {
					return
				}
				for i := range len(letters) {
					next = append(next, s+letters[i:i+1])
				}
			}
			row = next
		}
	}
}

// P1.9: numbers are a ring, and what is left by OpMod goes with the quotient.
func TestNumbersAreARing(t *testing.T) {
	do := func(op api.Op, a, b api.Value) api.Value { return mustArith(t, op, a, b) }
	for _, i := range numbers() {
		for _, j := range numbers() {
			a, b := num(i), num(j)
			if do(api.OpAdd, a, b) != do(api.OpAdd, b, a) || do(api.OpMul, a, b) != do(api.OpMul, b, a) {
				t.Errorf("%d and %d: the order is seen", i, j)
			}
			if do(api.OpSub, a, b) != do(api.OpAdd, a, mustArith(t, api.OpNeg, b)) {
				t.Errorf("%d and %d: less is not the sum with 0 less it", i, j)
			}
			if j != 0 {
				quotient, rest := do(api.OpDiv, a, b), do(api.OpMod, a, b)
				if do(api.OpAdd, do(api.OpMul, quotient, b), rest) != a {
					t.Errorf("%d by %d: %#v and %#v", i, j, quotient, rest)
				}
			}
			for _, k := range numbers() {
				c := num(k)
				if do(api.OpAdd, do(api.OpAdd, a, b), c) != do(api.OpAdd, a, do(api.OpAdd, b, c)) || do(api.OpMul, do(api.OpMul, a, b), c) != do(api.OpMul, a, do(api.OpMul, b, c)) {
					t.Errorf("%d, %d, %d: the grouping is seen", i, j, k)
				}
				if do(api.OpMul, a, do(api.OpAdd, b, c)) != do(api.OpAdd, do(api.OpMul, a, b), do(api.OpMul, a, c)) {
					t.Errorf("%d, %d, %d: the product does not spread", i, j, k)
				}
			}
		}
	}
}

// P1.9: bytes and characters of a text, and of its way back.
func TestCharactersOfOneText(t *testing.T) {
	for _, s := range texts() {
		v := text(s)
		bytes, chars := mustArith(t, api.OpLen, v).Num, mustArith(t, api.OpChars, v).Num
		if chars > bytes || 4*chars < bytes {
			t.Errorf("%q has %d characters and %d bytes", s, chars, bytes)
		}
		back := mustArith(t, api.OpBack, v)
		if mustArith(t, api.OpLen, back).Num != bytes {
			t.Errorf("%q backwards has other many bytes", s)
		}
		if !utf8.ValidString(s) {
			continue
		}
		if mustArith(t, api.OpChars, back).Num != chars || mustArith(t, api.OpBack, back) != v {
			t.Errorf("%q backwards is not undone", s)
		}
	}
}

// P1.9: bytes and characters of two texts together.
func TestCharactersOfTwoTexts(t *testing.T) {
	for _, a := range texts() {
		for _, b := range texts() {
			if len(a)+len(b) > api.MaxText {
				continue
			}
			both := mustArith(t, api.OpCat, text(a), text(b))
			apart := mustArith(t, api.OpChars, text(a)).Num + mustArith(t, api.OpChars, text(b)).Num
			chars := mustArith(t, api.OpChars, both).Num
			if mustArith(t, api.OpLen, both).Num != int64(len(a)+len(b)) || chars > apart {
				t.Errorf("%q with %q is %q", a, b, both.Text)
			}
			if utf8.ValidString(a) && utf8.ValidString(b) && chars != apart {
				t.Errorf("%q with %q has %d characters, not %d", a, b, chars, apart)
			}
		}
	}
}

// R5: what was asked in between is not seen.
func TestTheSameCallAnswersTheSame(t *testing.T) {
	type answers struct {
		check, shown, read api.Errno
		order              int
		below, ok          bool
		text               string
		sum, back          api.Value
	}
	ask := func(v api.Value) answers {
		var a answers
		a.check, a.order, a.below = value.Check(v), value.Compare(v, num(1)), value.Holds(api.RelLt, v, text("b"))
		a.sum, a.ok = value.Arith(api.OpDiv, v, num(0))
		a.text, a.shown = value.Show(v)
		a.back, a.read = value.Read(a.text)
		return a
	}
	all := append(values(), notValues()...)
	var first []answers
	for _, v := range all {
		first = append(first, ask(v))
	}
	for i := len(all) - 1; i >= 0; i-- {
		if ask(all[i]) != first[i] {
			t.Errorf("%#v is answered otherwise when it is asked again", all[i])
		}
	}
}
