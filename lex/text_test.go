package lex_test

import (
	"math"
	"slices"
	"strconv"
	"strings"
	"testing"

	"pedigree/api"
	"pedigree/lex"
)

func wantText(t *testing.T, k api.Token, want string) {
	t.Helper()
	for _, at := range []int{0, 7, -1, math.MinInt, math.MaxInt} {
		k.At = at
		if s, err := lex.Text(k); s != want || err != api.OK {
			t.Errorf("Text(%#v) = %q, %d; want %q", k, s, err, want)
		}
	}
}

func wantNoText(t *testing.T, k api.Token) {
	t.Helper()
	for _, at := range []int{0, 7, -1} {
		k.At = at
		if s, err := lex.Text(k); s != "" || err != api.ErrArg {
			t.Errorf("Text(%#v) = %q, %d; want ErrArg", k, s, err)
		}
	}
}

func wantJoin(t *testing.T, want string, l ...api.Token) {
	t.Helper()
	before := slices.Clone(l)
	if s, err := lex.Join(l); s != want || err != api.OK {
		t.Errorf("Join(%#v) = %q, %d; want %q", l, short(s), err, short(want))
	}
	if !slices.Equal(l, before) {
		t.Errorf("Join turned its list: %#v; it was %#v", l, before)
	}
}

func wantNoJoin(t *testing.T, code api.Errno, l ...api.Token) {
	t.Helper()
	if s, err := lex.Join(l); s != "" || err != code {
		t.Errorf("Join of %d tokens = %q, %d; want error %d", len(l), short(s), err, code)
	}
}

// with: k with another Text.
func with(k api.Token, s string) api.Token {
	k.Text = s
	return k
}

// repeat: k n times.
func repeat(k api.Token, n int) []api.Token { return slices.Repeat([]api.Token{k}, n) }

// P3.3, P3.4: the rows of the chapter's examples.
func TestTextAndJoinOfTheExamples(t *testing.T) {
	wantJoin(t, "p ( 7 )", name("p", 0), sign("(", 0), number(7, 0), sign(")", 0), end(0))
	wantNoJoin(t, api.ErrArg, end(0), end(0))
	wantNoJoin(t, api.ErrArg, variable("x", 0))
	wantNoText(t, number(-1, 0))
	wantText(t, text("a\"\x00", 0), `"a\"\x00"`)
}

// P3.3
func TestTextOfEachKind(t *testing.T) {
	wantText(t, name("aB_1", 0), "aB_1")
	wantText(t, name(strings.Repeat("a", api.MaxLong), 0), strings.Repeat("a", api.MaxLong))
	wantText(t, variable("Ab_1", 0), "Ab_1")
	wantText(t, variable(strings.Repeat("A", api.MaxLong), 0), strings.Repeat("A", api.MaxLong))
	wantText(t, blank(0), "_")
	wantText(t, end(0), "")
	for _, n := range []int64{0, 1, 9, 10, 1234567890, math.MaxInt64 - 1, math.MaxInt64} {
		wantText(t, number(n, 0), strconv.FormatInt(n, 10))
	}
	wantText(t, number(math.MinInt64, 0), "9223372036854775808")
	for _, w := range []string{"not", "count", "sum", "min", "max", "len", "chars", "back"} {
		wantText(t, word(w, 0), w)
	}
	for _, s := range []string{":-", "!=", "<=", ">=", "(", ")", ",", ".", "?", "=", "<", ">", "+", "-", "*", "/", "%", "&"} {
		wantText(t, sign(s, 0), s)
	}
}

// P3.3: each byte of a text, in itself and among others; a text that is a name or a keyword stands between quotes too.
func TestTextOfATextToken(t *testing.T) {
	for c := range 256 {
		s := string([]byte{byte(c)})
		want := s
		switch {
		case c == '\n':
			want = `\n`
		case c == '"' || c == '\\':
			want = `\` + s
		case c < 32 || c > 126:
			want = `\x` + strconv.FormatInt(int64(c)+256, 16)[1:]
		}
		wantText(t, text(s, 0), `"`+want+`"`)
		wantText(t, text("a"+s+"0", 0), `"a`+want+`0"`)
		wantText(t, text(strings.Repeat(s, api.MaxText), 0), `"`+strings.Repeat(want, api.MaxText)+`"`)
		wantNoText(t, text(strings.Repeat(s, api.MaxText+1), 0))
	}
	for _, s := range []string{"", "a", "abc", "not", "X", "_", "7", "-7", "a b", "q_x", strings.Repeat("a", api.MaxLong), strings.Repeat("a", api.MaxLong+1)} {
		wantText(t, text(s, 0), `"`+s+`"`)
	}
	wantText(t, text("\u00e9", 0), `"\xc3\xa9"`)
}

// P3.3: tokens made by hand that no source gives.
func TestTextOfWhatIsNoToken(t *testing.T) {
	for k := math.MinInt8; k <= math.MaxInt8; k++ {
		if k < int(api.TokName) || k > int(api.TokEnd) {
			for _, s := range []string{"", "a", "A", "_", "not", "."} {
				wantNoText(t, tok(api.TokenKind(k), s, 0))
			}
		}
	}
	for _, good := range []api.Token{name("a", 0), variable("A", 0), blank(0), text("a", 0), text("", 0), word("not", 0), sign(".", 0), end(0)} {
		for _, n := range []int64{1, -1, math.MaxInt64, math.MinInt64} {
			bad := good
			bad.Num = n
			wantNoText(t, bad)
		}
	}
	for _, s := range []string{"a", "_", " ", "\x00", "."} {
		wantNoText(t, with(blank(0), s))
		wantNoText(t, with(end(0), s))
		wantNoText(t, with(number(7, 0), s))
		wantNoText(t, with(number(0, 0), s))
	}
	wantNoText(t, with(number(7, 0), "7"))
	for _, n := range []int64{-1, -2, -10, math.MinInt64 + 1, -math.MaxInt64 + 1} {
		wantNoText(t, number(n, 0))
	}
	for _, s := range []string{"", "A", "_", "_a", "0", "0a", "not", "back", "a b", "a-", "a.", " a", "a ", "a\n", "a\x00", "\u00e9", "a\u00e9", "a\xff", strings.Repeat("a", api.MaxLong+1)} {
		wantNoText(t, name(s, 0))
	}
	for _, s := range []string{"", "a", "_", "_A", "0", "0A", "not", "A b", "A-", " A", "A ", "A\n", "\u00c9", "A\u00e9", "A\xff", strings.Repeat("A", api.MaxLong+1)} {
		wantNoText(t, variable(s, 0))
	}
	for _, s := range []string{"", "a", "nots", "no", "Not", "NOT", "not ", " not", "not count", "and", "_"} {
		wantNoText(t, word(s, 0))
	}
	for _, s := range []string{"", ":", "!", "==", "<>", "=<", "=>", "::", ":- ", " :-", "()", "<=>", "_", "a", "#", "\"", "\\", "-:", ":-!="} {
		wantNoText(t, sign(s, 0))
	}
}

// P3.4: a TokEnd may be the last one alone, and leaves no blank.
func TestJoin(t *testing.T) {
	wantJoin(t, "")
	wantJoin(t, "", end(4))
	wantJoin(t, "a", name("a", 3))
	wantJoin(t, "a", name("a", 3), end(3))
	wantJoin(t, "a b", name("a", 3), name("b", 3))
	wantJoin(t, `_ X not "" - 9223372036854775808 <= =`,
		blank(9), variable("X", 8), word("not", 7), text("", 6), sign("-", 5), number(math.MinInt64, 4), sign("<=", 3), sign("=", 2), end(1))
	wantNoJoin(t, api.ErrArg, end(0), name("a", 0))
	wantNoJoin(t, api.ErrArg, name("a", 0), end(0), name("a", 0), end(0))
	wantNoJoin(t, api.ErrArg, name("a", 0), end(0), end(0))
	for _, bad := range []api.Token{{}, name("", 0), name("A", 0), number(-1, 0), sign("==", 0), with(end(0), "a")} {
		wantNoJoin(t, api.ErrArg, bad)
		wantNoJoin(t, api.ErrArg, bad, end(0))
		wantNoJoin(t, api.ErrArg, name("a", 0), bad, name("b", 0))
		wantNoJoin(t, api.ErrArg, name("a", 0), bad)
	}
	if s, err := lex.Join(nil); s != "" || err != api.OK {
		t.Errorf("Join(nil) = %q, %d", s, err)
	}
}

// P3.4: a text of MaxSource bytes is told, a longer one is not; a wrong token is told ahead of it, wherever it stands.
func TestLengthOfAJoin(t *testing.T) {
	const half = api.MaxSource / 2
	most := append(repeat(sign(".", 0), half-1), sign("<=", 0)) // half-1 times a sign and a blank, and two bytes
	wantJoin(t, strings.Repeat(". ", half-1)+"<=", most...)
	wantJoin(t, strings.Repeat(". ", half-1)+"<=", append(slices.Clone(most), end(0))...)
	wantNoJoin(t, api.ErrLong, append(slices.Clone(most), sign(".", 0))...)
	wantNoJoin(t, api.ErrLong, append(slices.Clone(most), sign(".", 0), end(0))...)
	wantNoJoin(t, api.ErrLong, append(repeat(sign(".", 0), half-1), name("abc", 0))...)
	wantNoJoin(t, api.ErrLong, repeat(sign(".", 0), 3*api.MaxSource)...)
	long := repeat(text(strings.Repeat("\x00", api.MaxText), 0), 400)
	wantNoJoin(t, api.ErrLong, long...)
	for _, bad := range [][]api.Token{{number(-1, 0)}, {{}}, {end(0), end(0)}, {end(0), name("a", 0)}, {name("", 0), end(0)}} {
		wantNoJoin(t, api.ErrArg, append(slices.Clone(long), bad...)...)
		wantNoJoin(t, api.ErrArg, append(slices.Clone(bad), long...)...)
	}
}

// P3.5
func TestWords(t *testing.T) {
	keywords := []string{"not", "count", "sum", "min", "max", "len", "chars", "back"}
	for _, s := range keywords {
		if !lex.Keyword(s) || lex.Name(s) || lex.Variable(s) {
			t.Errorf("%q is a keyword, and neither a name nor a variable", s)
		}
	}
	for _, s := range []string{"", "no", "nots", "Not", "NOT", " not", "not ", "not_", "_not", "neg", "avg", "n\x00t", strings.Repeat("not", 50)} {
		if lex.Keyword(s) {
			t.Errorf("Keyword(%q)", s)
		}
	}
	for _, s := range []string{"a", "z", "aB_1", "a_", "a0", "aZ", "lens", "q_x", "not_", "nOT", "cOunt", strings.Repeat("z", api.MaxLong)} {
		if !lex.Name(s) || lex.Variable(s) || lex.Keyword(s) {
			t.Errorf("%q is a name, and no other word", s)
		}
	}
	for _, s := range []string{"A", "Z", "AB_1", "A_", "A0", "Az", "NOT", "Len", strings.Repeat("Z", api.MaxLong)} {
		if lex.Name(s) || !lex.Variable(s) || lex.Keyword(s) {
			t.Errorf("%q is a variable, and no other word", s)
		}
	}
	for _, s := range []string{"", "_", "_a", "_A", "0", "0a", "9A", "a b", "A b", "a-b", "a.b", "A,", " a", " A", "a ", "A ", "a\n", "A\n", "a\x00", "\x00", "`", "{", "@", "[",
		"a`", "a{", "a@", "a[", "a/", "a:", "\u00e9", "a\u00e9", "A\xc3\xa9", "a\xff", "A\xff", "a\u0131", "\u0391", "a\u0660",
		strings.Repeat("a", api.MaxLong+1), strings.Repeat("A", api.MaxLong+1), strings.Repeat("a", 3*api.MaxSource)} {
		if lex.Name(s) || lex.Variable(s) || lex.Keyword(s) {
			t.Errorf("%q is no word", short(s))
		}
	}
}
