package lex_test

import (
	"math"
	"slices"
	"strings"
	"testing"

	"pedigree/api"
	"pedigree/lex"
)

func tok(k api.TokenKind, text string, at int) api.Token {
	return api.Token{Kind: k, Text: text, At: at}
}

func name(s string, at int) api.Token     { return tok(api.TokName, s, at) }
func variable(s string, at int) api.Token { return tok(api.TokVar, s, at) }
func word(s string, at int) api.Token     { return tok(api.TokWord, s, at) }
func text(s string, at int) api.Token     { return tok(api.TokText, s, at) }
func sign(s string, at int) api.Token     { return tok(api.TokSign, s, at) }
func blank(at int) api.Token              { return tok(api.TokBlank, "", at) }
func end(at int) api.Token                { return tok(api.TokEnd, "", at) }

func number(n int64, at int) api.Token { return api.Token{Kind: api.TokNum, Num: n, At: at} }

// short keeps a message readable where a source is long.
func short(s string) string { return s[:min(len(s), 60)] }

func wantTokens(t *testing.T, source string, want ...api.Token) {
	t.Helper()
	l, f := lex.Tokens(source)
	if f != (api.Fault{}) || !slices.Equal(l, want) {
		t.Errorf("Tokens(%q) = %#v, %#v; want %#v", short(source), l, f, want)
	}
}

func wantFault(t *testing.T, source string, code api.Errno, at int) {
	t.Helper()
	l, f := lex.Tokens(source)
	if f != (api.Fault{Code: code, At: at}) || len(l) != 0 {
		t.Errorf("Tokens(%q) = %d tokens, %#v; want error %d at %d", short(source), len(l), f, code, at)
	}
}

// P3.2: the rows of the chapter's examples.
func TestTokensOfTheExamples(t *testing.T) {
	wantTokens(t, "p(X) :- q(X, _).",
		name("p", 0), sign("(", 1), variable("X", 2), sign(")", 3), sign(":-", 5), name("q", 8), sign("(", 9),
		variable("X", 10), sign(",", 11), blank(13), sign(")", 14), sign(".", 15), end(16))
	wantTokens(t, "", end(0))
	wantTokens(t, "# all", end(5))
	wantTokens(t, "n<=-9223372036854775808", name("n", 0), sign("<=", 1), sign("-", 3), number(math.MinInt64, 4), end(23))
	wantTokens(t, `"a\x62\n"#"`, text("ab\n", 0), end(11))
	wantTokens(t, "not_ not", name("not_", 0), word("not", 5), end(8))
	wantFault(t, "a::-b", api.ErrByte, 1)
	wantFault(t, "_a", api.ErrByte, 0)
	wantFault(t, "a _0", api.ErrByte, 2)
	wantFault(t, "x = 007.", api.ErrNum, 4)
	wantFault(t, "1a", api.ErrNum, 0)
	wantFault(t, "9223372036854775809", api.ErrNum, 0)
	for _, s := range []string{`"a`, `"\q"`, `"\x4G"`, "\"\n\""} {
		wantFault(t, s, api.ErrQuote, 0)
	}
	wantFault(t, `! "`, api.ErrByte, 0)
}

// P3.1: the length is told ahead of every fault within; MaxSource bytes themselves are a source.
func TestLengthOfASource(t *testing.T) {
	for _, s := range []string{" ", "$", "\"", "a", "0", "#", "_", "\x00", "."} {
		wantFault(t, strings.Repeat(s, api.MaxSource+1), api.ErrLong, api.MaxSource)
		wantFault(t, strings.Repeat(s, 3*api.MaxSource), api.ErrLong, api.MaxSource)
	}
	wantTokens(t, strings.Repeat(" ", api.MaxSource), end(api.MaxSource))
	wantTokens(t, strings.Repeat("#", api.MaxSource), end(api.MaxSource))
	wantTokens(t, strings.Repeat("\n", api.MaxSource-1)+"a", name("a", api.MaxSource-1), end(api.MaxSource))
	wantFault(t, strings.Repeat(" ", api.MaxSource-1)+"$", api.ErrByte, api.MaxSource-1)
	wantFault(t, strings.Repeat("a", api.MaxSource), api.ErrLong, 0)
	l, f := lex.Tokens(strings.Repeat(".", api.MaxSource))
	if f != (api.Fault{}) || len(l) != api.MaxSource+1 || l[api.MaxSource] != end(api.MaxSource) {
		t.Errorf("%d dots: %d tokens, %#v", api.MaxSource, len(l), f)
	}
}

// P3.2: the four blanks part tokens and do nothing else; no other byte is a blank.
func TestBlanks(t *testing.T) {
	wantTokens(t, "\t\n\r a\tB\n_\r0 not", name("a", 4), variable("B", 6), blank(8), number(0, 10), word("not", 12), end(15))
	wantTokens(t, " \t\r\n", end(4))
	for _, s := range []string{"\v", "\f", "\x00", "\x7f", "\x85", "\u0085", "\u00a0", "\u2028", "\ufeff"} {
		wantFault(t, s, api.ErrByte, 0)
		wantFault(t, "a"+s+"b", api.ErrByte, 1)
	}
}

// P3.2: any bytes may stand in a comment; it ends at the byte 10 or at the source's end.
func TestComments(t *testing.T) {
	var all []byte
	for c := range 256 {
		if c != '\n' {
			all = append(all, byte(c))
			wantTokens(t, "#"+string(rune(c))+string([]byte{byte(c)}), end(len("#"+string(rune(c)))+1))
			wantTokens(t, "#"+string([]byte{byte(c)})+"\na", name("a", 3), end(4))
		}
	}
	wantTokens(t, "a#"+string(all), name("a", 0), end(257))
	wantTokens(t, "a#"+string(all)+"\nb", name("a", 0), name("b", 258), end(259))
	wantTokens(t, "#", end(1))
	wantTokens(t, "#\n", end(2))
	wantTokens(t, "#\n#\n#", end(5))
	wantTokens(t, "#a\rb", end(4))
	wantTokens(t, "#$\n1#\"", number(1, 3), end(6))
	wantTokens(t, "\"#\" #\"\n_", text("#", 0), blank(7), end(8))
	wantFault(t, ":#\n-", api.ErrByte, 0)
	wantTokens(t, "<#\n=", sign("<", 0), sign("=", 3), end(4))
	wantFault(t, "#\n$", api.ErrByte, 2)
	wantFault(t, "\"#\n\"", api.ErrQuote, 0)
}

// P3.2: a run is the longest one, of at most MaxLong bytes.
func TestRuns(t *testing.T) {
	wantTokens(t, "aZ_09z", name("aZ_09z", 0), end(6))
	wantTokens(t, "AZ_09z", variable("AZ_09z", 0), end(6))
	wantTokens(t, "q_x a_ A_", name("q_x", 0), name("a_", 4), variable("A_", 7), end(9))
	for _, w := range []string{"not", "count", "sum", "min", "max", "len", "chars", "back"} {
		wantTokens(t, w, word(w, 0), end(len(w)))
		wantTokens(t, w+"s", name(w+"s", 0), end(len(w)+1))
		wantTokens(t, w[1:], name(w[1:], 0), end(len(w)-1))
		wantTokens(t, strings.ToUpper(w[:1])+w[1:], variable(strings.ToUpper(w[:1])+w[1:], 0), end(len(w)))
		wantTokens(t, w+"()", word(w, 0), sign("(", len(w)), sign(")", len(w)+1), end(len(w)+2))
	}
	for _, first := range []string{"a", "A", "z", "Z", "not"} {
		s := first + strings.Repeat("_", api.MaxLong-len(first))
		want := tok(api.TokName, s, 1)
		if first < "a" {
			want.Kind = api.TokVar
		}
		wantTokens(t, "("+s+")", sign("(", 0), want, sign(")", api.MaxLong+1), end(api.MaxLong+2))
		wantFault(t, "("+s+"0)", api.ErrLong, 1)
		wantFault(t, s+s+s, api.ErrLong, 0)
	}
	wantTokens(t, "a\""+strings.Repeat("a", api.MaxLong)+"\"", name("a", 0), text(strings.Repeat("a", api.MaxLong), 1), end(api.MaxLong+3))
	wantFault(t, "a\xc3\xa9", api.ErrByte, 1)
	wantFault(t, "\xc3\xa9a", api.ErrByte, 0)
}

// P3.2: a blank has nothing of a run right behind it.
func TestBlankToken(t *testing.T) {
	wantTokens(t, "_", blank(0), end(1))
	wantTokens(t, "_,_ _", blank(0), sign(",", 1), blank(2), blank(4), end(5))
	wantTokens(t, "_\"a\"_", blank(0), text("a", 1), blank(4), end(5))
	for _, s := range []string{"_a", "_z", "_A", "_Z", "_0", "_9", "__", "_ _ __"} {
		wantFault(t, s, api.ErrByte, strings.LastIndexByte(s, ' ')+1)
	}
	wantFault(t, "_"+strings.Repeat("a", 2*api.MaxLong), api.ErrByte, 0)
}

// P3.2: a number is 0, or digits whose first one is not 0, up to 9223372036854775808.
func TestNumbers(t *testing.T) {
	wantTokens(t, "0", number(0, 0), end(1))
	wantTokens(t, "10 9", number(10, 0), number(9, 3), end(4))
	wantTokens(t, "-0", sign("-", 0), number(0, 1), end(2))
	wantTokens(t, "1-1", number(1, 0), sign("-", 1), number(1, 2), end(3))
	wantTokens(t, "1.5", number(1, 0), sign(".", 1), number(5, 2), end(3))
	wantTokens(t, "9223372036854775807", number(math.MaxInt64, 0), end(19))
	wantTokens(t, "9223372036854775808", number(math.MinInt64, 0), end(19))
	for _, s := range []string{"9223372036854775809", "9223372036854775810", "10000000000000000000", "18446744073709551615", "18446744073709551616",
		"27670116110564327424", "00", "01", "007", "000", "0a", "0_", "0x1", "0b1", "0o7", "1_", "1_0", "12ab", "1e3", "0A", strings.Repeat("1", api.MaxLong+1),
		strings.Repeat("0", api.MaxLong+1), "1" + strings.Repeat("a", api.MaxLong)} {
		wantFault(t, s, api.ErrNum, 0)
		wantFault(t, "a "+s+" $", api.ErrNum, 2)
	}
}

// P3.2: each sign is one token, the longest that stands there.
func TestSigns(t *testing.T) {
	for _, s := range []string{":-", "!=", "<=", ">=", "(", ")", ",", ".", "?", "=", "<", ">", "+", "-", "*", "/", "%", "&"} {
		wantTokens(t, s, sign(s, 0), end(len(s)))
		wantTokens(t, s+"a"+s, sign(s, 0), name("a", len(s)), sign(s, len(s)+1), end(2*len(s)+1))
	}
	wantTokens(t, "<==>!=", sign("<=", 0), sign("=", 2), sign(">", 3), sign("!=", 4), end(6))
	wantTokens(t, "< =", sign("<", 0), sign("=", 2), end(3))
	wantTokens(t, "=<=>", sign("=", 0), sign("<=", 1), sign(">", 3), end(4))
	wantTokens(t, ":-:--", sign(":-", 0), sign(":-", 2), sign("-", 4), end(5))
	wantTokens(t, "--", sign("-", 0), sign("-", 1), end(2))
	wantTokens(t, "==", sign("=", 0), sign("=", 1), end(2))
	for _, s := range []string{":", "!", ": -", "! =", ":=", "!-", "!!=", "::-"} {
		wantFault(t, s, api.ErrByte, 0)
	}
	wantFault(t, "<!", api.ErrByte, 1)
}

// P3.2: the pieces of a quoted text, and what is none.
func TestQuotedTexts(t *testing.T) {
	wantTokens(t, `""`, text("", 0), end(2))
	wantTokens(t, `"\n\"\\\x00\xff\x0a\x22\x5c\x41"`, text("\n\"\\\x00\xff\n\"\\A", 0), end(32))
	wantTokens(t, `"a""b"`, text("a", 0), text("b", 3), end(6))
	wantTokens(t, `"\\"`+"a", text(`\`, 0), name("a", 4), end(5))
	wantTokens(t, `"# :- _ 007"`, text("# :- _ 007", 0), end(12))
	for c := range 256 {
		inner := string([]byte{byte(c)})
		switch {
		case c == '"':
			wantTokens(t, `"`+inner, text("", 0), end(2))
		case c >= 32 && c <= 126 && c != '\\':
			wantTokens(t, `"`+inner+`"`, text(inner, 0), end(3))
		default:
			wantFault(t, `"`+inner+`"`, api.ErrQuote, 0)
		}
		if c != 'n' && c != '"' && c != '\\' {
			wantFault(t, `"\`+inner+`"`, api.ErrQuote, 0)
		}
		const digits = "0123456789abcdef"
		wantTokens(t, `"\x`+digits[c/16:c/16+1]+digits[c%16:c%16+1]+`"`, text(inner, 0), end(6))
		if !strings.Contains(digits, inner) {
			wantFault(t, `"\x`+inner+`0"`, api.ErrQuote, 0)
			wantFault(t, `"\x0`+inner+`"`, api.ErrQuote, 0)
		}
	}
	for _, s := range []string{`"`, `"a`, `"\`, `"\"`, `"\x`, `"\x4`, `"\x41`, `"\x"`, `"\x4"`, "\"\u00e9\"", `"\N"`, `"\x4A"`, `"\X41"`} {
		wantFault(t, s, api.ErrQuote, 0)
		wantFault(t, "a."+s+"\n$", api.ErrQuote, 2)
	}
	wantFault(t, `"""`, api.ErrQuote, 2)
}

// P3.2: MaxText is a limit of the value, not of how it is written.
func TestLengthOfAText(t *testing.T) {
	for _, c := range [][2]string{{"a", "a"}, {" ", " "}, {`\n`, "\n"}, {`\"`, `"`}, {`\\`, `\`}, {`\x00`, "\x00"}, {`\xff`, "\xff"}} {
		most := strings.Repeat(c[0], api.MaxText)
		wantTokens(t, `p"`+most+`"q`, name("p", 0), text(strings.Repeat(c[1], api.MaxText), 1), name("q", len(most)+3), end(len(most)+4))
		for _, more := range []string{"a", `\n`, `\x00`, "\n", strings.Repeat("a", 1000)} {
			wantFault(t, `p"`+most+more+`"q`, api.ErrQuote, 1)
		}
		wantFault(t, `p"`+most, api.ErrQuote, 1)
	}
}

// P3.2: the fault farthest to the left is the answer, whatever stands behind it.
func TestFaultFarthestToTheLeft(t *testing.T) {
	faults := []struct {
		source string
		code   api.Errno
	}{{"$", api.ErrByte}, {"_a", api.ErrByte}, {":", api.ErrByte}, {"\xff", api.ErrByte}, {"007", api.ErrNum}, {`"\q"`, api.ErrQuote},
		{`"` + strings.Repeat("a", 201) + `"`, api.ErrQuote}, {strings.Repeat("a", 121), api.ErrLong}, {"\"a\n", api.ErrQuote}}
	for _, a := range faults {
		for _, b := range faults {
			wantFault(t, a.source+" "+b.source, a.code, 0)
			wantFault(t, "p(X) :- #c\n"+a.source+"\n"+b.source, a.code, 11)
		}
	}
}

// R4: what one call answers is not touched by another, nor by what is done to it.
func TestAnswersShareNoMemory(t *testing.T) {
	const source = `p(X) :- q("a\n", 7, _), not r.`
	first, _ := lex.Tokens(source)
	second, _ := lex.Tokens(source)
	want := slices.Clone(second)
	whole := first[:cap(first)]
	for i := range whole {
		whole[i] = name("other", -1)
	}
	first = append(first, end(-1))
	if !slices.Equal(second, want) {
		t.Errorf("the second answer is turned by the first: %#v", second)
	}
	wantTokens(t, source, want...)
}
