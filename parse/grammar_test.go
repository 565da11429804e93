package parse_test

import (
	"slices"
	"strings"
	"testing"

	"pedigree/api"
	"pedigree/lex"
	"pedigree/parse"
)

// grammar is the chapter's, with [ ] and { } written out as things of their own. What stands to the left of no = is a word: a token by its kind, or a keyword or a sign by itself. (least is the number that is too great without a minus.)
const grammar = `
Program  = Rules end
Rules    = | Rule Rules
Rule     = name Args Body .
Args     = | ( ) | ( Arg MoreArgs )
MoreArgs = | , Arg MoreArgs
Arg      = Value | variable | count ( ) | sum ( variable ) | min ( variable ) | max ( variable )
Body     = | :- Literal MoreLits
MoreLits = | , Literal MoreLits
Literal  = not Atom | Atom | Expr Rel Expr
Atom     = name Terms
Terms    = | ( ) | ( Term MoreTerms )
MoreTerms = | , Term MoreTerms
Term     = Value | variable | blank
Value    = name | text | number | - number | - least
Rel      = = | != | < | <= | > | >=
Expr     = Part MoreParts
MoreParts = | + Part MoreParts | - Part MoreParts | & Part MoreParts
Part     = Unit MoreUnits
MoreUnits = | * Unit MoreUnits | / Unit MoreUnits | % Unit MoreUnits
Unit     = - number | - least | - Unit | Plain
Plain    = name | text | number | variable | len ( Expr ) | chars ( Expr ) | back ( Expr ) | ( Expr )
One      = Rule end
Facts    = end | name Values . Facts
Values   = | ( ) | ( Value MoreValues )
MoreValues = | , Value MoreValues
Query    = Atom ? end
`

// production: what the left side may be.
type production struct {
	left  string
	right []string
}

type rules struct {
	all  []production
	of   map[string][]int // the numbers of a left side's productions
	none []string         // the left sides that may be no words at all
}

func readGrammar() *rules {
	g := &rules{of: map[string][]int{}}
	for line := range strings.Lines(strings.TrimSpace(grammar)) {
		left, choices, _ := strings.Cut(line, " = ")
		right := []string{}
		for _, w := range append(strings.Fields(choices), "|") {
			if w == "|" {
				g.all = append(g.all, production{strings.TrimSpace(left), right})
				right = []string{}
			} else {
				right = append(right, w)
			}
		}
	}
	for i, p := range g.all {
		g.of[p.left] = append(g.of[p.left], i)
		if len(p.right) == 0 {
			g.none = append(g.none, p.left)
		}
	}
	return g
}

// item is a production that has been read up to a dot, from a set's number on.
type item struct{ prod, dot, from int }

// look finds which words may stand behind which, after Earley: set k holds what may have been read of each production behind k words.
type look struct {
	*rules
	sets [][]item
}

func (g *rules) begin(start string) *look {
	l := &look{rules: g}
	var first []item
	for _, i := range g.of[start] {
		first = append(first, item{prod: i})
	}
	l.close(first)
	return l
}

// close adds to a new set all that follows without another word.
func (l *look) close(set []item) {
	at := len(l.sets)
	l.sets = append(l.sets, nil)
	seen := map[item]bool{}
	add := func(x item) {
		if !seen[x] {
			seen[x] = true
			l.sets[at] = append(l.sets[at], x)
		}
	}
	for _, x := range set {
		add(x)
	}
	for i := 0; i < len(l.sets[at]); i++ {
		x := l.sets[at][i]
		p := l.all[x.prod]
		if x.dot == len(p.right) {
			for _, y := range l.sets[x.from] {
				if q := l.all[y.prod]; y.dot < len(q.right) && q.right[y.dot] == p.left {
					add(item{y.prod, y.dot + 1, y.from})
				}
			}
			continue
		}
		for _, k := range l.of[p.right[x.dot]] {
			add(item{prod: k, from: at})
		}
		if slices.Contains(l.none, p.right[x.dot]) {
			add(item{x.prod, x.dot + 1, x.from})
		}
	}
}

// step reads one more word; false: it cannot stand there, and nothing has changed.
func (l *look) step(word string) bool {
	var next []item
	for _, x := range l.sets[len(l.sets)-1] {
		if p := l.all[x.prod]; x.dot < len(p.right) && p.right[x.dot] == word {
			next = append(next, item{x.prod, x.dot + 1, x.from})
		}
	}
	if len(next) == 0 {
		return false
	}
	l.close(next)
	return true
}

func (l *look) back() { l.sets = l.sets[:len(l.sets)-1] }

// wordOf answers the grammar's word for a token.
func wordOf(t api.Token) string {
	switch t.Kind {
	case api.TokName:
		return "name"
	case api.TokVar:
		return "variable"
	case api.TokBlank:
		return "blank"
	case api.TokNum:
		if t.Num < 0 {
			return "least"
		}
		return "number"
	case api.TokText:
		return "text"
	case api.TokEnd:
		return "end"
	}
	return t.Text
}

// firstMisfit is the number of the first token that cannot stand there; as many as there are, if all can.
func (g *rules) firstMisfit(start string, tokens []api.Token) int {
	l := g.begin(start)
	for i, t := range tokens {
		if !l.step(wordOf(t)) {
			return i
		}
	}
	return len(tokens)
}

// From here on: what is read of tokens that can all stand where they do, by cutting them to pieces from the outside.

func isWord(t api.Token, words ...string) bool {
	return (t.Kind == api.TokSign || t.Kind == api.TokWord) && slices.Contains(words, t.Text)
}

// outside answers where the signs stand that are in no brackets.
func outside(l []api.Token, signs ...string) []int {
	var out []int
	depth := 0
	for i, t := range l {
		switch {
		case isWord(t, "("):
			depth++
		case isWord(t, ")"):
			depth--
		}
		if depth == 0 && isWord(t, signs...) {
			out = append(out, i)
		}
	}
	return out
}

// pieces cuts at the commas that are in no brackets.
func pieces(l []api.Token) [][]api.Token {
	if len(l) == 0 {
		return nil
	}
	var out [][]api.Token
	from := 0
	for _, at := range outside(l, ",") {
		out = append(out, l[from:at])
		from = at + 1
	}
	return append(out, l[from:])
}

// between answers the pieces in the brackets behind a name.
func between(l []api.Token) [][]api.Token {
	if len(l) == 1 {
		return nil
	}
	return pieces(l[2 : len(l)-1])
}

func slowValue(l []api.Token) api.Value {
	switch {
	case len(l) == 2:
		return num(0 - l[1].Num)
	case l[0].Kind == api.TokNum:
		return num(l[0].Num)
	}
	return text(l[0].Text)
}

func slowTerm(l []api.Token) api.Term {
	switch l[0].Kind {
	case api.TokVar:
		return v(l[0].Text)
	case api.TokBlank:
		return v("_")
	}
	return api.Term{Val: slowValue(l)}
}

func slowAtom(l []api.Token) api.Atom {
	a := atom(l[0].Text)
	for _, piece := range between(l) {
		a.Args = append(a.Args, slowTerm(piece))
	}
	return a
}

func slowExpr(l []api.Token) api.Expr {
	names := map[string]api.Op{"+": api.OpAdd, "-": api.OpSub, "*": api.OpMul, "/": api.OpDiv, "%": api.OpMod, "&": api.OpCat, "len": api.OpLen, "chars": api.OpChars, "back": api.OpBack}
	for _, signs := range [][]string{{"+", "-", "&"}, {"*", "/", "%"}} {
		for _, at := range slices.Backward(outside(l, signs...)) {
			if at > 0 && !isWord(l[at-1], "+", "-", "&", "*", "/", "%") {
				return op(names[l[at].Text], slowExpr(l[:at]), slowExpr(l[at+1:]))
			}
		}
	}
	switch {
	case isWord(l[0], "-") && (len(l) > 2 || l[1].Kind != api.TokNum):
		return op(api.OpNeg, slowExpr(l[1:]))
	case isWord(l[0], "("):
		return slowExpr(l[1 : len(l)-1])
	case isWord(l[0], "len", "chars", "back"):
		return op(names[l[0].Text], slowExpr(l[2:len(l)-1]))
	}
	return ex(slowTerm(l))
}

func slowLiteral(l []api.Token) api.Literal {
	rels := []string{"=", "!=", "<", "<=", ">", ">="}
	if isWord(l[0], "not") {
		return api.Literal{Kind: api.LNot, Atom: slowAtom(l[1:])}
	}
	if at := outside(l, rels...); at != nil {
		return cmp(slowExpr(l[:at[0]]), api.Rel(slices.Index(rels, l[at[0]].Text)+1), slowExpr(l[at[0]+1:]))
	}
	return api.Literal{Kind: api.LPos, Atom: slowAtom(l)}
}

func slowArg(l []api.Token) api.Arg {
	aggs := []string{"", "count", "sum", "min", "max"}
	switch {
	case isWord(l[0], "count"):
		return api.Arg{Agg: api.AggCount}
	case l[0].Kind == api.TokWord:
		return api.Arg{Agg: api.Agg(slices.Index(aggs, l[0].Text)), Term: v(l[2].Text)}
	}
	return api.Arg{Term: slowTerm(l)}
}

// slowRule takes the rule's tokens, the . left out.
func slowRule(l []api.Token) api.Rule {
	r := api.Rule{Pred: l[0].Text}
	top, body := l, []api.Token(nil)
	if at := outside(l, ":-"); at != nil {
		top, body = l[:at[0]], l[at[0]+1:]
	}
	for _, piece := range between(top) {
		r.Head = append(r.Head, slowArg(piece))
	}
	for _, piece := range pieces(body) {
		r.Body = append(r.Body, slowLiteral(piece))
	}
	return r
}

func slowFact(l []api.Token) api.Fact {
	f := fact(l[0].Text)
	for _, piece := range between(l) {
		f.Args = append(f.Args, slowValue(piece))
	}
	return f
}

func slowDepth(e api.Expr) int {
	deepest := 0
	for _, kid := range e.Kids {
		deepest = max(deepest, slowDepth(kid))
	}
	return deepest + 1
}

// slowLimit says what is too much in a rule of these tokens.
func slowLimit(l []api.Token, r api.Rule) api.Errno {
	many := len(r.Body) > 16 || len(r.Head) > 24
	for _, x := range r.Body {
		if slowDepth(x.Left) > 8 || slowDepth(x.Right) > 8 {
			return api.ErrDeep
		}
		many = many || len(x.Atom.Args) > 24
	}
	names := map[string]bool{}
	for _, t := range l {
		if t.Kind == api.TokVar {
			names[t.Text] = true
		}
	}
	if many || len(names) > 24 {
		return api.ErrMany
	}
	return api.OK
}

// cut answers the tokens of what ends with a . ahead of the token bad, one behind the other, each without it.
func cut(tokens []api.Token, bad int) [][]api.Token {
	var out [][]api.Token
	from := 0
	for i, t := range tokens[:bad] {
		if isWord(t, ".") {
			out = append(out, tokens[from:i])
			from = i + 1
		}
	}
	return out
}

// misfit is the fault of the token with that number; the zero Fault, if it is none.
func misfit(tokens []api.Token, bad int, code api.Errno) api.Fault {
	if bad == len(tokens) {
		return api.Fault{}
	}
	return fault(code, tokens[bad].At)
}

func (g *rules) slowProgram(source string) (api.Program, api.Fault) {
	tokens, f := lex.Tokens(source)
	if f != (api.Fault{}) {
		return api.Program{}, f
	}
	bad := g.firstMisfit("Program", tokens)
	var out api.Program
	for _, l := range cut(tokens, bad) {
		r := slowRule(l)
		if code := slowLimit(l, r); code != api.OK {
			return api.Program{}, fault(code, l[0].At)
		}
		out.Rules = append(out.Rules, r)
	}
	if f = misfit(tokens, bad, api.ErrSyntax); f != (api.Fault{}) {
		return api.Program{}, f
	}
	return out, f
}

func (g *rules) slowOne(source string) (api.Rule, api.Fault) {
	tokens, f := lex.Tokens(source)
	if f != (api.Fault{}) {
		return api.Rule{}, f
	}
	bad := g.firstMisfit("One", tokens)
	if f = misfit(tokens, bad, api.ErrSyntax); f != (api.Fault{}) {
		return api.Rule{}, f
	}
	l := tokens[:len(tokens)-2]
	r := slowRule(l)
	if code := slowLimit(l, r); code != api.OK {
		return api.Rule{}, fault(code, l[0].At)
	}
	return r, f
}

func (g *rules) slowFacts(source string) ([]api.Fact, api.Fault) {
	tokens, f := lex.Tokens(source)
	if f != (api.Fault{}) {
		return nil, f
	}
	bad := g.firstMisfit("Facts", tokens)
	var out []api.Fact
	for _, l := range cut(tokens, bad) {
		x := slowFact(l)
		if len(x.Args) > 24 {
			return nil, fault(api.ErrMany, l[0].At)
		}
		out = append(out, x)
	}
	code := api.ErrSyntax
	if bad > 1 && bad < len(tokens) && slices.Contains([]string{"variable", "blank"}, wordOf(tokens[bad])) && isWord(tokens[bad-1], "(", ",") {
		code = api.ErrGround
	}
	if f = misfit(tokens, bad, code); f != (api.Fault{}) {
		return nil, f
	}
	return out, f
}

func (g *rules) slowQuery(source string) (api.Atom, api.Fault) {
	tokens, f := lex.Tokens(source)
	if f != (api.Fault{}) {
		return api.Atom{}, f
	}
	bad := g.firstMisfit("Query", tokens)
	if f = misfit(tokens, bad, api.ErrSyntax); f != (api.Fault{}) {
		return api.Atom{}, f
	}
	a := slowAtom(tokens[:len(tokens)-2])
	if len(a.Args) > 24 {
		return api.Atom{}, fault(api.ErrMany, tokens[0].At)
	}
	return a, f
}

// wantSlow holds all four calls against the slow ones.
func wantSlow(t *testing.T, g *rules, source string) {
	t.Helper()
	program, f := g.slowProgram(source)
	want(t, "Program", parse.Program, source, program, f)
	one, f := g.slowOne(source)
	want(t, "Rule", parse.Rule, source, one, f)
	facts, f := g.slowFacts(source)
	want(t, "Facts", parse.Facts, source, facts, f)
	query, f := g.slowQuery(source)
	want(t, "Query", parse.Query, source, query, f)
}

// written is what a source may have for the grammar's words that are no tokens by themselves.
func written(word string) string {
	switch word {
	case "name":
		return "p"
	case "variable":
		return "X"
	case "blank":
		return "_"
	case "number":
		return "7"
	case "least":
		return "9223372036854775808"
	case "text":
		return `"a b"`
	case "end":
		return ""
	}
	return word
}

func (g *rules) words() []string {
	var out []string
	for _, p := range g.all {
		for _, w := range p.right {
			if g.of[w] == nil && !slices.Contains(out, w) {
				out = append(out, w)
			}
		}
	}
	return out
}

// P5.2 to P5.5: behind every short beginning that a source may have, every token is told just if it cannot stand there; the end too.
func TestEveryShortBeginning(t *testing.T) {
	g := readGrammar()
	words := g.words()
	faults := map[string]func(string) api.Fault{
		"Program": func(s string) api.Fault { _, f := parse.Program(s); return f },
		"One":     func(s string) api.Fault { _, f := parse.Rule(s); return f },
		"Facts":   func(s string) api.Fault { _, f := parse.Facts(s); return f },
		"Query":   func(s string) api.Fault { _, f := parse.Query(s); return f },
	}
	var deeper func(start string, l *look, source string, more int)
	deeper = func(start string, l *look, source string, more int) {
		for _, w := range words {
			next := source + written(w) + " "
			f := faults[start](next)
			if !l.step(w) {
				at := len(source)
				if w == "end" {
					at = len(next)
				}
				code := api.ErrSyntax
				if start == "Facts" && (w == "variable" || w == "blank") && (strings.HasSuffix(source, "( ") || strings.HasSuffix(source, ", ")) {
					code = api.ErrGround
				}
				if f != fault(code, at) {
					t.Fatalf("%s of %q: %v; want %d at %d", start, next, f, code, at)
				}
				continue
			}
			if w == "end" && f != (api.Fault{}) || w != "end" && f != (api.Fault{}) && f != fault(api.ErrSyntax, len(next)) {
				t.Fatalf("%s of %q: %v", start, next, f)
			}
			if w != "end" && more > 1 {
				deeper(start, l, next, more-1)
			}
			l.back()
		}
	}
	for _, from := range [][]string{{"Program", "5", ""}, {"Program", "4", "name . name ( variable ) :-"}, {"One", "5", ""}, {"One", "4", "name :-"}, {"One", "4", "name :- variable ="}, {"One", "4", "name :- - ( name *"},
		{"One", "4", "name :- name ( ) ,"}, {"One", "4", "name ( count ( ) ,"}, {"Facts", "6", ""}, {"Facts", "5", "name ( - number ) . name"}, {"Query", "6", ""}} {
		l := g.begin(from[0])
		source := ""
		for _, w := range strings.Fields(from[2]) {
			if !l.step(w) {
				t.Fatalf("%v: no beginning", from)
			}
			source += written(w) + " "
		}
		deeper(from[0], l, source, int(from[1][0]-'0'))
	}
}

const goodRules = `anc(X, -3, bo, "two words", count(), sum(Y), min(Y), max(Z)) :- par(X, _, -9223372036854775808), q, r(), not s, not t(X, "", _),
	X = a - -b * (Y + 3) & len(chars(back(Z))), -Y != 2 / -3 % -9223372036854775808, "a" < b, 1 <= (2), c & d > 1, - - - 1 >= -X. p. q() :- a * b = c + d.`

const goodFacts = `p. q(). r(1). s(-1, a, "B", "", -9223372036854775808, 9223372036854775807). p(a, a).`

const goodQuery = `p(X, -1, _, bo, "a b", X, -9223372036854775808)?`

// P5.2 to P5.5: tokens of good sources left out, put twice, put in another's place, and what is left when a source is cut off.
func TestTokensOutOfPlace(t *testing.T) {
	g := readGrammar()
	for _, source := range []string{goodRules, goodFacts, goodQuery, "p(X) :- q(X), X < 3.", "p(1).", "p."} {
		wantSlow(t, g, source)
		tokens, _ := lex.Tokens(source)
		tokens = tokens[:len(tokens)-1]
		var others []api.Token // one of each word
		for _, t := range tokens {
			if !slices.ContainsFunc(others, func(o api.Token) bool { return wordOf(o) == wordOf(t) }) {
				others = append(others, t)
			}
		}
		for i := range tokens {
			wantSlow(t, g, joined(t, slices.Delete(slices.Clone(tokens), i, i+1)))
			wantSlow(t, g, joined(t, slices.Insert(slices.Clone(tokens), i, tokens[i])))
			wantSlow(t, g, joined(t, tokens[:i]))
			wantSlow(t, g, source[:tokens[i].At])
			for _, other := range others {
				turned := slices.Clone(tokens)
				turned[i] = other
				wantSlow(t, g, joined(t, turned))
			}
		}
	}
}

func joined(t *testing.T, l []api.Token) string {
	t.Helper()
	source, err := lex.Join(l)
	if err != api.OK {
		t.Fatalf("Join(%v) = %d", l, err)
	}
	return source
}
