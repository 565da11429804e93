package value

import (
	"strconv"

	"pedigree/api"
)

const hexDigits = "0123456789abcdef"

// Show: the value as a source has it. (P1.5)
func Show(v api.Value) (string, api.Errno) {
	if Check(v) != api.OK {
		return "", api.ErrValue
	}
	if v.Kind == api.KNum {
		return strconv.FormatInt(v.Num, 10), api.OK
	}
	if isName(v.Text) {
		return v.Text, api.OK
	}
	return quote(v.Text), api.OK
}

// Read: the value that Show tells so. Showing the guess again refuses every other way of writing a value. (P1.6)
func Read(s string) (api.Value, api.Errno) {
	v, ok := guess(s)
	if !ok {
		return api.Value{}, api.ErrValue
	}
	if shown, err := Show(v); err != api.OK || shown != s {
		return api.Value{}, api.ErrValue
	}
	return v, api.OK
}

// guess answers the only value of which s may be what Show tells.
func guess(s string) (api.Value, bool) {
	if s == "" {
		return api.Value{}, false
	}
	switch c := s[0]; {
	case c == '"':
		t, ok := unquote(s)
		return text(t), ok
	case c == '-' || isDigit(c):
		n, err := strconv.ParseInt(s, 10, 64)
		return number(n), err == nil
	}
	return text(s), true
}

func quote(s string) string {
	out := []byte{'"'}
	for i := range len(s) {
		switch c := s[i]; {
		case c == '\n':
			out = append(out, '\\', 'n')
		case c == '"' || c == '\\':
			out = append(out, '\\', c)
		case c >= 32 && c <= 126:
			out = append(out, c)
		default:
			out = append(out, '\\', 'x', hexDigits[c>>4], hexDigits[c&15])
		}
	}
	return string(append(out, '"'))
}

// unquote answers false where s has no closing quote, or an escape that quote does not write.
func unquote(s string) (string, bool) {
	if len(s) < 2 || s[len(s)-1] != '"' {
		return "", false
	}
	inner := s[1 : len(s)-1]
	out := make([]byte, 0, len(inner))
	for len(inner) > 0 {
		c, width, ok := firstByte(inner)
		if !ok {
			return "", false
		}
		out = append(out, c)
		inner = inner[width:]
	}
	return string(out), true
}

// firstByte answers the byte that s begins with, written out or as an escape, and how many bytes of s tell it.
func firstByte(s string) (c byte, width int, ok bool) {
	if s[0] != '\\' {
		return s[0], 1, true
	}
	if len(s) < 2 {
		return 0, 0, false
	}
	switch s[1] {
	case 'n':
		return '\n', 2, true
	case '"', '\\':
		return s[1], 2, true
	case 'x':
		return hexByte(s)
	}
	return 0, 0, false
}

// hexByte reads \x and two digits of base 16.
func hexByte(s string) (c byte, width int, ok bool) {
	const escape = len(`\xff`)
	if len(s) < escape {
		return 0, 0, false
	}
	n, err := strconv.ParseUint(s[2:escape], 16, 8)
	if err != nil {
		return 0, 0, false
	}
	return byte(n), escape, true
}

// isName: is s a name, as the document's section 'Words' has it?
func isName(s string) bool {
	if s == "" || len(s) > api.MaxLong || !isSmall(s[0]) || isKeyword(s) {
		return false
	}
	for i := range len(s) {
		if c := s[i]; !isSmall(c) && !isCapital(c) && !isDigit(c) && c != '_' {
			return false
		}
	}
	return true
}

func isKeyword(s string) bool {
	switch s {
	case "not", "count", "sum", "min", "max", "len", "chars", "back":
		return true
	}
	return false
}

func isSmall(c byte) bool { return 'a' <= c && c <= 'z' }

func isCapital(c byte) bool { return 'A' <= c && c <= 'Z' }

func isDigit(c byte) bool { return '0' <= c && c <= '9' }
