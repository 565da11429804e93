package lex

import "pedigree/api"

var keywords = [...]string{"not", "count", "sum", "min", "max", "len", "chars", "back"}

// Keyword: is the name a keyword? (P3.5)
func Keyword(s string) bool {
	for _, w := range keywords {
		if s == w {
			return true
		}
	}
	return false
}

// Name: may a predicate or a bare text be written so? (P3.5)
func Name(s string) bool { return isWord(s) && isSmall(rune(s[0])) && !Keyword(s) }

// Variable: may a variable be written so? (P3.5)
func Variable(s string) bool { return isWord(s) && isCapital(rune(s[0])) }

// isWord: is s a run, and not longer than a name or a variable may be?
func isWord(s string) bool {
	return s != "" && len(s) <= api.MaxLong && runLength(s) == len(s)
}

// runLength answers how many bytes of a run s begins with. A byte that is no rune by itself is told as one that no run has.
func runLength(s string) int {
	for i, c := range s {
		if !isLetter(c) && !isDigit(c) && c != '_' {
			return i
		}
	}
	return len(s)
}

func isLetter(c rune) bool { return isSmall(c) || isCapital(c) }

func isSmall(c rune) bool { return 'a' <= c && c <= 'z' }

func isCapital(c rune) bool { return 'A' <= c && c <= 'Z' }

func isDigit(c rune) bool { return '0' <= c && c <= '9' }
