package lex

import (
	"strings"

	"pedigree/api"
)

const hexDigits = "0123456789abcdef"

// quoted reads the text between the quote that s begins with and the next one that is in no piece.
func quoted(s string) (t api.Token, width int, err api.Errno) {
	var out []byte
	for at := 1; at < len(s) && len(out) <= api.MaxText; at += width {
		if s[at] == '"' {
			return api.Token{Kind: api.TokText, Text: string(out)}, at + 1, api.OK
		}
		var c byte
		if c, width = piece(s[at:]); width == 0 {
			break
		}
		out = append(out, c)
	}
	return api.Token{}, 0, api.ErrQuote
}

// piece answers the byte that the piece at the beginning of s stands for, and the piece's width; 0: there is none.
func piece(s string) (c byte, width int) {
	switch {
	case s[0] < 32 || s[0] > 126:
		return 0, 0
	case s[0] != '\\':
		return s[0], 1
	case len(s) < 2:
		return 0, 0
	}
	switch s[1] {
	case 'n':
		return '\n', 2
	case '"', '\\':
		return s[1], 2
	case 'x':
		return hexPiece(s)
	}
	return 0, 0
}

// hexPiece reads \x and two digits of base 16, the letters small.
func hexPiece(s string) (c byte, width int) {
	const most = len(`\xff`)
	if len(s) < most {
		return 0, 0
	}
	high, low := strings.IndexByte(hexDigits, s[2]), strings.IndexByte(hexDigits, s[3])
	if high < 0 || low < 0 {
		return 0, 0
	}
	return byte(high<<4 | low), most
}
