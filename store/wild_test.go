package store_test

import (
	"fmt"
	"strings"
	"testing"

	"pedigree/api"
	"pedigree/engine"
	"pedigree/store"
)

// dice are numbers that look thrown and are the same in each run.
type dice uint64

func (d *dice) below(n int) int {
	*d = *d*6364136223846793005 + 1442695040888963407
	return int(uint64(*d>>33) % uint64(n))
}

func (d *dice) one(l ...string) string { return l[d.below(len(l))] }

// ruled is a program with its predicates, each with a letter for each column: n of numbers, t of texts, any of both.
type ruled struct {
	source string
	preds  []string
}

func programs() []ruled {
	return []ruled{
		{"", nil},
		{low, []string{"low a", "stock an"}},
		{"t(X, Y) :- e(X, Y). t(X, Z) :- e(X, Y), t(Y, Z).", []string{"e aa", "t aa"}},
		{"t(X, Y) :- e(X, Y). t(X, Z) :- t(X, Y), e(Y, Z), Y < 2. top(X) :- e(X, _), not t(_, X).", []string{"e an", "t an", "top a"}},
		{"c(X, count()) :- e(X, Y). m(max(N)) :- c(_, N). big(X) :- c(X, N), m(N), not off(X).", []string{"e aa", "c an", "m n", "big a", "off a"}},
		{"name(T) :- w(S), T = S & \"!\", not w(T). one(X) :- w(X), f. f :- g, not name(a).", []string{"w t", "name t", "one t", "f ", "g "}},
		{"p(1). p(X) :- q(X, Y), p(Y), X != Y. r(X) :- p(X), r(X). s(sum(X)) :- p(X).", []string{"p n", "q nn", "r n", "s n"}},
		{"next(Y) :- n(X), Y = X + 1, Y < 3. both(X) :- next(X), n(X). far :- both(_), not next(3).", []string{"n n", "next n", "both n", "far "}},
	}
}

// strange are predicates that no program has, and hardly any columns agree.
func strange() []string { return []string{"x n", "x n", "x nn", "x ", "y t", "y t", "y ta", "z aaa"} }

func (d *dice) value(c byte) api.Value {
	if d.below(25) == 0 {
		c = 'a'
	}
	if c == 't' || c == 'a' && d.below(2) == 0 {
		return text(d.one("a", "b", "a!", "A b", ""))
	}
	return num(int64(d.below(4)))
}

// kind is a predicate and its columns; now and then they are too many or too few.
func (d *dice) kind(p ruled) (string, string) {
	l := p.preds
	if len(l) == 0 || d.below(4) == 0 {
		l = strange()
	}
	name, columns, _ := strings.Cut(d.one(l...), " ")
	if d.below(30) == 0 {
		columns = d.one("", "a", "aa", "aaaaaaaaa")
	}
	return name, columns
}

func (d *dice) fact(p ruled) api.Fact {
	name, columns := d.kind(p)
	f := api.Fact{Pred: name}
	for i := range len(columns) {
		f.Args = append(f.Args, d.value(columns[i]))
	}
	if d.below(60) == 0 {
		f.Pred = d.one("", "X", "q_x", "a b", strings.Repeat("x", 25))
	}
	return f
}

func (d *dice) query(p ruled) api.Atom {
	name, columns := d.kind(p)
	q := api.Atom{Pred: name}
	for i := range len(columns) {
		x := v(d.one("X", "Y", "_"))
		if d.below(4) == 0 {
			x = api.Term{Val: d.value(columns[i])}
		}
		q.Args = append(q.Args, x)
	}
	if d.below(60) == 0 {
		q.Pred = d.one("", "X", "q_x", "a b", strings.Repeat("x", 25))
	}
	if d.below(60) == 0 && len(q.Args) > 0 {
		q.Args[0] = v(d.one("x", "", "X"+strings.Repeat("x", 24)))
	}
	return q
}

// first are facts that fit a program.
func (d *dice) first(p ruled, rules api.Program) []api.Fact {
	var out []api.Fact
	for range d.below(9) {
		f := d.fact(p)
		if engine.Fit(rules, append(out[:len(out):len(out)], f)) == fine() {
			out = append(out, f)
		}
	}
	return out
}

// pair is a database and the slow one beside it, with transactions of both.
type pair struct {
	d    *store.DB
	slow *slowDB
	txs  []txPair
}

type txPair struct {
	x    *store.Tx
	slow *slowTx
}

func (d *dice) pair(t *testing.T, p ruled) *pair {
	rules := program(t, p.source)
	l := d.first(p, rules)
	return &pair{d: made(t, rules, l), slow: &slowDB{p: rules, first: l}}
}

// tx is one of the last ones; seldom it is over.
func (d *dice) tx(p *pair) txPair {
	for range 3 {
		x := p.txs[max(0, len(p.txs)-5)+d.below(min(5, len(p.txs)))]
		if x.slow.open || d.below(20) == 0 {
			return x
		}
	}
	return p.begin()
}

func (p *pair) begin() txPair {
	p.txs = append(p.txs, txPair{p.d.Begin(), p.slow.begin()})
	return p.txs[len(p.txs)-1]
}

func toldAsk(l [][]api.Value, r api.Refusal) string {
	return fmt.Sprint("Ask: ", showTuples(l), " ", r.Part, " ", r.At, " ", int(r.Code))
}

func toldFacts(l []api.Fact, err api.Errno) string { return fmt.Sprint("At: ", showFacts(l), " ", err) }

func toldCommits(l []api.Commit, err api.Errno) string {
	return fmt.Sprint("Commits: ", showCommits(l), " ", err)
}

func toldErr(what string, err api.Errno) string { return fmt.Sprint(what, ": ", int(err)) }

func toldCommit(seq int, err api.Errno) string { return fmt.Sprint("Commit: ", seq, " ", int(err)) }

func (p *pair) askBoth(q api.Atom) (string, string) {
	return toldAsk(p.d.Ask(q)), toldAsk(p.slow.ask(q, p.slow.now()))
}

func (p *pair) atBoth(seq int) (string, string) {
	if seq < 0 || seq > len(p.slow.commits) {
		return toldFacts(p.d.At(seq)), toldFacts(nil, api.ErrSeq)
	}
	return toldFacts(p.d.At(seq)), toldFacts(p.slow.at(seq), api.OK)
}

func (p *pair) commitsBoth(from int) (string, string) {
	if from < 1 || from > len(p.slow.commits)+1 {
		return toldCommits(p.d.Commits(from)), toldCommits(nil, api.ErrSeq)
	}
	return toldCommits(p.d.Commits(from)), toldCommits(p.slow.commits[from-1:], api.OK)
}

func (x txPair) askBoth(q api.Atom) (string, string) {
	return toldAsk(x.x.Ask(q)), toldAsk(x.slow.ask(q))
}

func (x txPair) touchBoth(f api.Fact, in bool) (string, string) {
	if in {
		return toldErr("Add", x.x.Add(f)), toldErr("Add", x.slow.touch(f, true))
	}
	return toldErr("Remove", x.x.Remove(f)), toldErr("Remove", x.slow.touch(f, false))
}

func (x txPair) endBoth(drop bool) (string, string) {
	if drop {
		return toldErr("Drop", x.x.Drop()), toldErr("Drop", x.slow.drop())
	}
	return toldCommit(x.x.Commit()), toldCommit(x.slow.commit())
}

// step makes one call of both, and tells what each answers.
func (d *dice) step(p *pair, of ruled) (string, string) {
	if len(p.txs) == 0 {
		p.begin()
	}
	switch n := d.below(40); {
	case n == 0:
		return p.askBoth(d.query(of))
	case n == 1:
		return p.atBoth(d.below(len(p.slow.commits)+3) - 1)
	case n == 2:
		return p.commitsBoth(d.below(len(p.slow.commits) + 3))
	case n == 3:
		p.begin()
		return fmt.Sprint("Seq: ", p.d.Seq()), fmt.Sprint("Seq: ", len(p.slow.commits))
	case n < 9:
		return d.tx(p).askBoth(d.query(of))
	case n < 34:
		return d.tx(p).touchBoth(d.fact(of), d.below(5) > 1)
	}
	return d.tx(p).endBoth(d.below(6) == 0)
}

// P28.1 to P28.9, P28.11: transactions side by side, held against the slow ones call by call.
func TestAnyCalls(t *testing.T) {
	d := dice(7)
	seen := map[string]int{}
	for i := range 700 {
		of := programs()[i%len(programs())]
		p := d.pair(t, of)
		var trace []string
		for range 60 {
			got, want := d.step(p, of)
			trace = append(trace, want)
			if got != want {
				t.Fatalf("%s over %s:\n%s\ngot  %s", of.source, showFacts(p.slow.first), strings.Join(trace, "\n"), got)
			}
			what, answer, _ := strings.Cut(want, ": ")
			seen[what+answer[strings.LastIndex(answer, " ")+1:]]++
			if strings.HasPrefix(answer, "(") {
				seen["answers"]++
			}
		}
		if got, want := p.atBoth(len(p.slow.commits)); got != want {
			t.Fatalf("%s over %s:\n%s\nbehind all: %s; want %s", of.source, showFacts(p.slow.first), strings.Join(trace, "\n"), got, want)
		}
		wantEachTransaction(t, p, of)
	}
	wantSeen(t, seen, map[string]int{"Commit0": 2000, "Commit280": 400, "answers": 1500, "Ask0": 3000, "Ask40": 20, "Ask70": 20, "Ask71": 10, "Ask72": 300, "Ask281": 50, "Commit281": 30, "Drop0": 300, "Drop281": 5, "Add0": 5000, "Remove0": 5000, "Add10": 100, "Add70": 50, "Add71": 10, "Add72": 300, "Add80": 100, "Add281": 30, "Remove72": 300, "Remove80": 50, "At282": 50, "Commits282": 50})
}

// wantSeen asks whether the dice have shown enough of each kind.
func wantSeen(t *testing.T, seen, least map[string]int) {
	t.Helper()
	for what, n := range least {
		if seen[what] < n {
			t.Errorf("only %d of %s; want %d; seen %v", seen[what], what, n, seen)
		}
	}
}

// wantEachTransaction asks all that are open what they see.
func wantEachTransaction(t *testing.T, p *pair, of ruled) {
	t.Helper()
	for _, x := range p.txs {
		for _, k := range of.preds {
			name, columns, _ := strings.Cut(k, " ")
			if got, want := x.askBoth(atom(name, many(len(columns))...)); got != want {
				t.Fatalf("%s over %s: %s sees %s; want %s", of.source, showFacts(p.slow.first), name, got, want)
			}
		}
	}
}

// P28.8: long databases: many commits, each of few facts, many facts.
func TestLongRuns(t *testing.T) {
	d := dice(23)
	of := programs()[2]
	p := d.pair(t, of)
	for range 120 {
		x := p.begin()
		for range 1 + d.below(6) {
			f := nums(d.one("e", "e", "x"), int64(d.below(9)), int64(d.below(9)))
			if got, want := x.touchBoth(f, d.below(2) == 0); got != want {
				t.Fatalf("%s: %s; want %s", showFacts([]api.Fact{f}), got, want)
			}
		}
		if d.below(3) > 0 {
			if got, want := x.endBoth(false); got != want {
				t.Fatalf("%s; want %s", got, want)
			}
		}
	}
	for seq := range len(p.slow.commits) + 1 {
		if got, want := p.atBoth(seq); got != want {
			t.Fatalf("behind %d: %s; want %s", seq, got, want)
		}
	}
	wantEachTransaction(t, p, of)
}
