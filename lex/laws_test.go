package lex_test

import (
	"math"
	"math/big"
	"regexp"
	"slices"
	"strconv"
	"strings"
	"testing"

	"pedigree/api"
	"pedigree/lex"
)

// The chapter's words as patterns: what a source begins with.
var (
	reGap    = regexp.MustCompile("^(?:[\t\n\r ]|#[^\n]*)+")
	reWord   = regexp.MustCompile(`^[a-zA-Z][a-zA-Z0-9_]*`)
	reUnder  = regexp.MustCompile(`^_[a-zA-Z0-9_]*`)
	reDigits = regexp.MustCompile(`^[0-9][a-zA-Z0-9_]*`)
	reNumber = regexp.MustCompile(`^(?:0|[1-9][0-9]*)$`)
	reQuoted = regexp.MustCompile(`^"(?:[ !#-\[\]-~]|\\[n"\\]|\\x[0-9a-f][0-9a-f])*"`)
	reSign   = regexp.MustCompile(`^(?::-|!=|<=|>=|[-().,?=<>+*/%&])`)
	reKey    = regexp.MustCompile(`^(?:not|count|sum|min|max|len|chars|back)$`)
	reName   = regexp.MustCompile(`^[a-z][a-zA-Z0-9_]{0,119}$`)
	reVar    = regexp.MustCompile(`^[A-Z][a-zA-Z0-9_]{0,119}$`)
)

// slowTokens is Tokens as the chapter says it, by patterns.
func slowTokens(s string) ([]api.Token, api.Fault) {
	if len(s) > 65536 {
		return nil, api.Fault{Code: api.ErrLong, At: 65536}
	}
	var out []api.Token
	for at := 0; ; {
		at += len(reGap.FindString(s[at:]))
		if at == len(s) {
			return append(out, end(at)), api.Fault{}
		}
		k, width, code := slowFirst(s[at:])
		if code != api.OK {
			return nil, api.Fault{Code: code, At: at}
		}
		k.At = at
		out = append(out, k)
		at += width
	}
}

func slowFirst(s string) (api.Token, int, api.Errno) {
	if w := reWord.FindString(s); w != "" {
		k := tok(api.TokWord, w, 0)
		if len(w) > 120 {
			return k, 0, api.ErrLong
		} else if reVar.MatchString(w) {
			k.Kind = api.TokVar
		} else if !reKey.MatchString(w) {
			k.Kind = api.TokName
		}
		return k, len(w), api.OK
	}
	if w := reUnder.FindString(s); w == "_" {
		return blank(0), 1, api.OK
	}
	if w := reDigits.FindString(s); w != "" {
		n, _ := new(big.Int).SetString(w, 10)
		if !reNumber.MatchString(w) || n.Cmp(new(big.Int).Lsh(big.NewInt(1), 63)) > 0 {
			return api.Token{}, 0, api.ErrNum
		}
		return number(int64(n.Uint64()), 0), len(w), api.OK
	}
	if s[0] == '"' {
		w := reQuoted.FindString(s)
		if v, err := strconv.Unquote(w); err == nil && len(v) <= 200 { // the pieces mean there what they mean here
			return text(v, 0), len(w), api.OK
		}
		return api.Token{}, 0, api.ErrQuote
	}
	if w := reSign.FindString(s); w != "" {
		return sign(w, 0), len(w), api.OK
	}
	return api.Token{}, 0, api.ErrByte
}

// slowIsToken: is k one that Tokens can give, its place aside?
func slowIsToken(k api.Token) bool {
	switch k.Kind {
	case api.TokName:
		return k.Num == 0 && reName.MatchString(k.Text) && !reKey.MatchString(k.Text)
	case api.TokVar:
		return k.Num == 0 && reVar.MatchString(k.Text)
	case api.TokWord:
		return k.Num == 0 && reKey.MatchString(k.Text)
	case api.TokSign:
		return k.Num == 0 && k.Text != "" && reSign.FindString(k.Text) == k.Text
	case api.TokText:
		return k.Num == 0 && len(k.Text) <= 200
	case api.TokNum:
		return k.Text == "" && (k.Num >= 0 || k.Num == math.MinInt64)
	case api.TokBlank, api.TokEnd:
		return k.Num == 0 && k.Text == ""
	}
	return false
}

// placeless: the tokens with all their places 0.
func placeless(l []api.Token) []api.Token {
	out := slices.Clone(l)
	for i := range out {
		out[i].At = 0
	}
	return out
}

// wantLaws holds a source to the slow way of reading it (P3.2), to there and back (P3.6), and to its pieces (P3.7).
func wantLaws(t *testing.T, s string) {
	t.Helper()
	l, f := lex.Tokens(s)
	slow, slowFault := slowTokens(s)
	if f != slowFault || !slices.Equal(l, slow) {
		t.Fatalf("Tokens(%q) = %#v, %#v; want %#v, %#v", s, l, f, slow, slowFault)
	}
	if f != (api.Fault{}) {
		if len(s) <= api.MaxSource {
			wantFaultPieces(t, s, f)
		}
		return
	}
	wantThereAndBack(t, l)
	wantPieces(t, s, l)
}

func wantThereAndBack(t *testing.T, l []api.Token) {
	t.Helper()
	joined, err := lex.Join(l)
	if err == api.ErrLong {
		return
	}
	again, f := lex.Tokens(joined)
	if err != api.OK || f != (api.Fault{}) || !slices.Equal(placeless(again), placeless(l)) {
		t.Fatalf("the tokens %#v are joined as %q, %d, and read as %#v, %#v", l, joined, err, again, f)
	}
	if bare, err := lex.Join(l[:len(l)-1]); bare != joined || err != api.OK {
		t.Fatalf("without its end %q is joined as %q, %d", joined, bare, err)
	}
}

func wantPieces(t *testing.T, s string, l []api.Token) {
	t.Helper()
	wantTokens(t, s[:l[0].At], end(l[0].At))
	for i, k := range l[:len(l)-1] {
		piece := s[k.At:l[i+1].At]
		k.At = 0
		wantTokens(t, piece, k, end(len(piece)))
	}
}

func wantFaultPieces(t *testing.T, s string, f api.Fault) {
	t.Helper()
	if l, ahead := lex.Tokens(s[:f.At]); ahead != (api.Fault{}) || len(l) == 0 {
		t.Fatalf("Tokens(%q) has a fault at %d, and another ahead of it: %#v", s, f.At, ahead)
	}
	wantFault(t, s[f.At:], f.Code, 0)
}

// P3.2, P3.6, P3.7: every byte by itself and behind every other, alone, within quotes, within a comment, behind a word.
func TestEveryTwoBytes(t *testing.T) {
	wantLaws(t, "")
	for a := range 256 {
		wantLaws(t, string([]byte{byte(a)}))
		for b := range 256 {
			s := string([]byte{byte(a), byte(b)})
			wantLaws(t, s)
			wantLaws(t, `"`+s+`"`)
			wantLaws(t, "#"+s+"a")
			wantLaws(t, "p"+s+"(")
		}
	}
}

// P3.2, P3.6, P3.7: every short row of bytes of each kind.
func TestEveryShortRow(t *testing.T) {
	const kinds = "aZ_09n\"\\x#\n :-!=<(.$\xc3"
	var rows func(s string, left int)
	rows = func(s string, left int) {
		wantLaws(t, s)
		for i := 0; i < len(kinds) && left > 0; i++ {
			rows(s+kinds[i:i+1], left-1)
		}
	}
	rows("", 4)
	const quoting = "a0n\"\\xg"
	for _, first := range []string{`"\`, `"\x`, `"a\x4`} {
		for a := range len(quoting) {
			for b := range len(quoting) {
				for c := range len(quoting) {
					wantLaws(t, first+string([]byte{quoting[a], quoting[b], quoting[c]})+`"`)
				}
			}
		}
	}
}

// dice answers numbers below n, the same ones in every run.
type dice uint64

func (d *dice) below(n int) int {
	*d = *d*6364136223846793005 + 1442695040888963407
	return int(uint64(*d)>>33) % n
}

// parts are what sources are made of here, right and wrong.
func parts() []string {
	return []string{"p", "q_x", "X", "Long_Variable0", "_", "0", "7", "9223372036854775808", "9223372036854775809", "007", "1a", "not", "count", "back", "nots",
		`"a b"`, `"\n\"\\\x00"`, `""`, `"`, `"\q"`, `\`, ":-", "!=", "<=", ">=", "(", ")", ",", ".", "?", "=", "<", ">", "+", "-", "*", "/", "%", "&", ":", "!",
		" ", "\t", "\n", "\r\n", "# note \"\n", "#", "$", "\xff", "\u00e9", "__", strings.Repeat("a", 120), strings.Repeat("B", 121),
		`"` + strings.Repeat(`\x41`, 200) + `"`, `"` + strings.Repeat("c", 201) + `"`}
}

// P3.2, P3.6, P3.7: sources of any parts, and such of right parts alone, which run longer ahead of their first fault.
func TestAnySource(t *testing.T) {
	var right []string
	for _, s := range parts() {
		if _, f := slowTokens(s); f == (api.Fault{}) {
			right = append(right, s)
		}
	}
	for seed := range 4000 {
		d := dice(seed)
		for _, from := range [][]string{parts(), right} {
			var s strings.Builder
			for range d.below(40) {
				s.WriteString(from[d.below(len(from))])
				if d.below(2) == 0 {
					s.WriteByte(" \n\t\r"[d.below(4)])
				}
			}
			wantLaws(t, s.String())
		}
	}
}

// P3.3, P3.4, P3.6: any tokens made by hand: just those that a source has are told, and read back.
func TestAnyToken(t *testing.T) {
	texts := append(parts(), "", "A", "a", "a\n", "len", "sum", "min", "max", "chars", "==", "\x00", strings.Repeat("\x00", 200), strings.Repeat("\x00", 201))
	var good []api.Token
	for kind := api.TokenKind(-2); kind < 12; kind++ {
		for _, s := range texts {
			for _, n := range []int64{0, 1, -1, 7, math.MaxInt64, math.MinInt64, math.MinInt64 + 1} {
				k := api.Token{Kind: kind, Text: s, Num: n, At: int(n)}
				if !slowIsToken(k) {
					wantNoText(t, k)
					wantNoJoin(t, api.ErrArg, name("a", 0), k)
					continue
				}
				good = append(good, k)
				if kind == api.TokEnd {
					wantThereAndBack(t, []api.Token{k})
					continue
				}
				wantThereAndBack(t, []api.Token{k, end(0)})
				s, _ := lex.Text(k)
				k.At = 0
				wantTokens(t, s, k, end(len(s)))
			}
		}
	}
	good = slices.DeleteFunc(good, func(k api.Token) bool { return k.Kind == api.TokEnd })
	for seed := range 500 {
		d := dice(seed)
		var l []api.Token
		for range d.below(40) {
			l = append(l, good[d.below(len(good))])
		}
		wantThereAndBack(t, append(l, end(0)))
	}
}

// P3.5: every row of two bytes, and each byte behind a word.
func TestEveryWordOfTwoBytes(t *testing.T) {
	for a := range 256 {
		for b := range 256 {
			for _, s := range []string{string([]byte{byte(a)}), string([]byte{byte(a), byte(b)}), string([]byte{byte(a), byte(b), 'n'}), "le" + string([]byte{byte(a), byte(b)})} {
				wantName, wantVar, wantKey := slowIsToken(name(s, 0)), slowIsToken(variable(s, 0)), slowIsToken(word(s, 0))
				if lex.Name(s) != wantName || lex.Variable(s) != wantVar || lex.Keyword(s) != wantKey {
					t.Fatalf("%q: Name %t, Variable %t, Keyword %t", s, lex.Name(s), lex.Variable(s), lex.Keyword(s))
				}
			}
		}
	}
}
