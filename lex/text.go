package lex

import (
	"math"
	"strconv"
	"strings"

	"pedigree/api"
	"pedigree/value"
)

// Text: the token as a source has it. (P3.3)
func Text(t api.Token) (string, api.Errno) {
	if !mayBe(t) {
		return "", api.ErrArg
	}
	switch t.Kind {
	case api.TokBlank:
		return "_", api.OK
	case api.TokNum:
		return strconv.FormatUint(uint64(t.Num), 10), api.OK
	case api.TokText:
		return quote(t.Text), api.OK
	}
	return t.Text, api.OK
}

// Join: the tokens as a source, one blank between each two. (P3.4)
func Join(l []api.Token) (string, api.Errno) {
	var out strings.Builder
	for i, t := range l {
		s, err := Text(t)
		if err != api.OK || t.Kind == api.TokEnd && i < len(l)-1 {
			return "", api.ErrArg
		}
		if t.Kind == api.TokEnd || out.Len() > api.MaxSource {
			continue // a text that is too long already is not told: only the tokens behind are still looked at
		}
		if i > 0 {
			out.WriteByte(' ')
		}
		out.WriteString(s)
	}
	if out.Len() > api.MaxSource {
		return "", api.ErrLong
	}
	return out.String(), api.OK
}

// mayBe: is t a token that some source has, its place aside?
func mayBe(t api.Token) bool {
	if t.Kind == api.TokNum {
		return t.Text == "" && (t.Num >= 0 || t.Num == math.MinInt64)
	}
	if t.Num != 0 {
		return false
	}
	switch t.Kind {
	case api.TokName:
		return Name(t.Text)
	case api.TokVar:
		return Variable(t.Text)
	case api.TokWord:
		return Keyword(t.Text)
	case api.TokSign:
		return isSign(t.Text)
	case api.TokText:
		return len(t.Text) <= api.MaxText
	case api.TokBlank, api.TokEnd:
		return t.Text == ""
	}
	return false
}

func isSign(s string) bool {
	t, _, err := sign(s)
	return err == api.OK && t.Text == s
}

// quote is as value.Show has a text, but that a name stands between quotes too: no byte of it needs a piece of more than one byte.
func quote(s string) string {
	shown, _ := value.Show(api.Value{Kind: api.KText, Text: s})
	if Name(s) {
		return `"` + shown + `"`
	}
	return shown
}
