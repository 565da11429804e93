package parse_test

import (
	"reflect"
	"slices"
	"strings"
	"testing"

	"pedigree/api"
	"pedigree/lex"
	"pedigree/parse"
	"pedigree/term"
	"pedigree/value"
)

// dice answers numbers below n, the same ones in every run.
type dice uint64

func (d *dice) below(n int) int {
	*d = *d*6364136223846793005 + 1442695040888963407
	return int(uint64(*d)>>33) % n
}

func pick[T any](d *dice, l []T) T { return l[d.below(len(l))] }

// grow answers tokens that the grammar has for a left side; the less room there is, the shorter they are.
func (g *rules) grow(d *dice, word string, room *int) []string {
	choices := g.of[word]
	if choices == nil {
		*room--
		return []string{anyWritten(d, word)}
	}
	one := pick(d, choices)
	if *room < 0 {
		one = shortest(word, choices)
	}
	var out []string
	for _, w := range g.all[one].right {
		out = append(out, g.grow(d, w, room)...)
	}
	return out
}

// shortest is a choice that comes to an end: with most left sides the first one.
func shortest(left string, choices []int) int {
	if left == "Literal" || left == "Unit" {
		return choices[len(choices)-1]
	}
	return choices[0]
}

func anyWritten(d *dice, word string) string {
	switch word {
	case "name":
		return pick(d, []string{"p", "q", "a", "bo"})
	case "variable":
		return pick(d, []string{"X", "Y", "Z", "Long_1"})
	case "number":
		return pick(d, []string{"0", "1", "7", "9223372036854775807"})
	case "text":
		return pick(d, []string{`""`, `"p"`, `"X"`, `"."`, `"\n# \""`, `"-"`})
	}
	return written(word)
}

// spaced writes words as a source with any blanks and comments ahead of each token and behind the last one.
func spaced(d *dice, words []string) string {
	var out strings.Builder
	for _, w := range words {
		out.WriteString(pick(d, []string{" ", " ", "\n", "\t\r", " # a. X\n", "#\n"}) + w)
	}
	return out.String() + pick(d, []string{"", " ", "\n", "#", "# p."})
}

func (g *rules) anyWords(d *dice, starts ...string) []string {
	room := 5 + d.below(60)
	words := g.grow(d, pick(d, starts), &room)
	for room > 0 && d.below(2) == 0 { // a list of rules may have come out empty
		words = append(g.grow(d, "Rule", &room), words...)
	}
	return words
}

// spoilt does something to a word, or to some.
func spoilt(d *dice, g *rules, words []string) []string {
	words = slices.Clone(words)
	for range d.below(3) {
		at := d.below(len(words) + 1)
		switch any := anyWritten(d, pick(d, g.words())); {
		case at == len(words) || d.below(3) == 0:
			words = slices.Insert(words, at, any)
		case d.below(2) == 0:
			words = slices.Delete(words, at, at+1)
		default:
			words[at] = any
		}
	}
	return words
}

// P5.2 to P5.6: any sources, good ones and spoilt ones, against the slow reader; what is read is as it may be.
func TestAnySources(t *testing.T) {
	g := readGrammar()
	d := dice(1)
	good := 0
	for range 4000 {
		words := g.anyWords(&d, "Program", "One", "Facts", "Query")
		if d.below(3) > 0 {
			words = spoilt(&d, g, words)
		}
		source := spaced(&d, words)
		wantSlow(t, g, source)
		if wantMayBe(t, source) {
			good++
		}
	}
	if good < 1000 {
		t.Errorf("only %d sources are without a fault", good)
	}
}

// wantMayBe asks whether what is read without a fault is as it may be, and whether beside a fault there is nothing (P5.6, R2). It answers whether something was read.
func wantMayBe(t *testing.T, source string) bool {
	t.Helper()
	p, f := parse.Program(source)
	r, g := parse.Rule(source)
	l, h := parse.Facts(source)
	a, i := parse.Query(source)
	for _, x := range append(p.Rules, r) {
		if err := term.CheckRule(x); err != api.OK && (g == api.Fault{} || !same(x, api.Rule{})) {
			t.Errorf("%q is read as the rule %#v", source, x)
		}
	}
	for _, x := range l {
		if !lex.Name(x.Pred) || len(x.Args) > api.MaxWide || slices.ContainsFunc(x.Args, func(w api.Value) bool { return value.Check(w) != api.OK }) {
			t.Errorf("%q is read as the fact %#v", source, x)
		}
	}
	if (i == api.Fault{}) != (term.CheckAtom(a) == api.OK) {
		t.Errorf("%q is read as the query %#v, %v", source, a, i)
	}
	if (f != api.Fault{} && !same(p, api.Program{})) || (g != api.Fault{} && !same(r, api.Rule{})) || (h != api.Fault{} && l != nil) || (i != api.Fault{} && !same(a, api.Atom{})) {
		t.Errorf("%q: something is answered beside a fault", source)
	}
	return f.Code == api.OK || i.Code == api.OK
}

// tokenAt answers the number of the token at a place.
func tokenAt(source string, f api.Fault) int {
	tokens, _ := lex.Tokens(source)
	return slices.IndexFunc(tokens, func(t api.Token) bool { return t.At == f.At })
}

func wantAlike[T any](t *testing.T, call func(string) (T, api.Fault), a, b string) {
	t.Helper()
	x, f := call(a)
	y, g := call(b)
	if !same(x, y) || f.Code != g.Code || f.Code != api.OK && tokenAt(a, f) != tokenAt(b, g) || f.Code == api.OK && f != g {
		t.Errorf("%q is read as %#v, %v; %q as %#v, %v", a, x, f, b, y, g)
	}
}

// P5.7: only tokens count.
func TestOnlyTokensCount(t *testing.T) {
	g := readGrammar()
	d := dice(2)
	for range 3000 {
		words := spoilt(&d, g, g.anyWords(&d, "Program", "One", "Facts", "Query"))
		a, b := spaced(&d, words), spaced(&d, words)
		wantAlike(t, parse.Program, a, b)
		wantAlike(t, parse.Rule, a, b)
		wantAlike(t, parse.Facts, a, b)
		wantAlike(t, parse.Query, a, b)
	}
	for _, pair := range [][2]string{{`p("a\n").`, `p("a\x0a").`}, {`p("a").`, `p("\x61").`}, {`p:-X=-1.`, "p :- X\n=\t-#\n1 . "}} {
		wantAlike(t, parse.Program, pair[0], pair[1])
		wantAlike(t, parse.Facts, pair[0], pair[1])
	}
}

// wantTogether asks what P5.7 says of a source behind another one.
func wantTogether[T any](t *testing.T, call func(string) ([]T, api.Fault), a, b string) {
	t.Helper()
	x, f := call(a)
	y, g := call(b)
	both, h := call(a + "\n" + b)
	switch {
	case f == api.Fault{} && g == api.Fault{}:
		if (h != api.Fault{}) || !same(both, append(x, y...)) {
			t.Errorf("%q and %q together are %#v, %v", a, b, both, h)
		}
	case f == api.Fault{}:
		if both != nil || h != fault(g.Code, g.At+len(a)+1) {
			t.Errorf("%q and %q together have %v, the second one has %v", a, b, h, g)
		}
	default:
		_, first := lex.Tokens(a)
		_, second := lex.Tokens(b)
		if tokens, _ := lex.Tokens(a); (first == api.Fault{}) && (second == api.Fault{}) && tokenAt(a, f) != len(tokens)-1 && (both != nil || h != f) {
			t.Errorf("%q and %q together have %v, the first one has %v", a, b, h, f)
		}
	}
}

func programRules(source string) ([]api.Rule, api.Fault) {
	p, f := parse.Program(source)
	return p.Rules, f
}

// P5.7: sources one behind the other.
func TestOneBehindTheOther(t *testing.T) {
	g := readGrammar()
	d := dice(3)
	sources := []string{"", " # p", "p. !", "p _x", "p(X)", "p(007).", "p" + wide(25, "1") + ".", "p :- X = --------X.", ".", "p(1,X).", `p(a,"`}
	for range 3000 {
		l := []string{pick(&d, sources)}
		for range 3 {
			words := g.anyWords(&d, "Rules", "Facts")
			if d.below(2) == 0 {
				words = spoilt(&d, g, words)
			}
			l = append(l, spaced(&d, words))
		}
		a, b := pick(&d, l), pick(&d, l)
		wantTogether(t, programRules, a, b)
		wantTogether(t, parse.Facts, a, b)
	}
}

// P5.7: what Rule, Facts and Program say of one source.
func TestTheyAgree(t *testing.T) {
	g := readGrammar()
	d := dice(4)
	for range 5000 {
		words := g.anyWords(&d, "Program", "One", "One", "Facts")
		if d.below(2) == 0 {
			words = spoilt(&d, g, words)
		}
		source := spaced(&d, words)
		p, f := parse.Program(source)
		r, one := parse.Rule(source)
		if (one == api.Fault{}) != (f == api.Fault{} && len(p.Rules) == 1) || (one == api.Fault{}) && !same(r, p.Rules[0]) {
			t.Errorf("%q: Rule reads %#v, %v; Program %#v, %v", source, r, one, p, f)
		}
		l, no := parse.Facts(source)
		if (no != api.Fault{}) {
			continue
		}
		var rules []api.Rule
		for _, x := range l {
			r := api.Rule{Pred: x.Pred}
			for _, w := range x.Args {
				r.Head = append(r.Head, api.Arg{Term: api.Term{Val: w}})
			}
			rules = append(rules, r)
		}
		if (f != api.Fault{}) || !same(p.Rules, rules) {
			t.Errorf("%q: Facts reads %#v; Program %#v, %v", source, l, p, f)
		}
	}
}

type span struct{ from, to uintptr }

// spans are where the lists of a thing lie, their spare room too.
func spans(x reflect.Value) []span {
	var out []span
	switch x.Kind() {
	case reflect.Struct:
		for i := range x.NumField() {
			out = append(out, spans(x.Field(i))...)
		}
	case reflect.Slice:
		if size := uintptr(x.Cap()) * x.Type().Elem().Size(); size > 0 {
			out = append(out, span{x.Pointer(), x.Pointer() + size})
		}
		for i := range x.Len() {
			out = append(out, spans(x.Index(i))...)
		}
	}
	return out
}

// R4, R5: no two lists that are answered share memory, of one call or of two; the same source is read alike each time.
func TestAnswersAreNewMemory(t *testing.T) {
	g := readGrammar()
	d := dice(5)
	sources := []string{goodRules, goodFacts, goodQuery}
	for range 300 {
		sources = append(sources, spaced(&d, g.anyWords(&d, "Program", "One", "Facts", "Query")))
	}
	for _, source := range sources {
		var all []span
		var answers []string
		for range 2 {
			p, f1 := parse.Program(source)
			r, f2 := parse.Rule(source)
			l, f3 := parse.Facts(source)
			a, f4 := parse.Query(source)
			x := reflect.ValueOf(struct {
				P              api.Program
				R              api.Rule
				L              []api.Fact
				A              api.Atom
				F1, F2, F3, F4 api.Fault
			}{p, r, l, a, f1, f2, f3, f4})
			all = append(all, spans(x)...)
			answers = append(answers, told(x))
		}
		slices.SortFunc(all, func(a, b span) int {
			if a.from < b.from {
				return -1
			}
			return 1
		})
		for i := 1; i < len(all); i++ {
			if all[i].from < all[i-1].to {
				t.Fatalf("%q: answers share memory", source)
			}
		}
		if answers[0] != answers[1] {
			t.Fatalf("%q is read in two ways", source)
		}
	}
}
