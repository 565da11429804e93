package store_test

import (
	"fmt"
	"strings"
	"testing"

	"pedigree/api"
	"pedigree/parse"
	"pedigree/store"
	"pedigree/value"
)

const low = "low(X) :- stock(X, N), N < 2."

func num(n int64) api.Value { return api.Value{Kind: api.KNum, Num: n} }

func text(s string) api.Value { return api.Value{Kind: api.KText, Text: s} }

func fact(pred string, l ...api.Value) api.Fact { return api.Fact{Pred: pred, Args: l} }

// nums is a fact of numbers.
func nums(pred string, l ...int64) api.Fact {
	f := api.Fact{Pred: pred}
	for _, n := range l {
		f.Args = append(f.Args, num(n))
	}
	return f
}

// wide is a fact of so many numbers.
func wide(pred string, columns int) api.Fact {
	f := api.Fact{Pred: pred}
	for i := range columns {
		f.Args = append(f.Args, num(int64(i)))
	}
	return f
}

func v(name string) api.Term { return api.Term{Var: name} }

// many are so many unlike variables.
func many(count int) []api.Term {
	var out []api.Term
	for i := range count {
		out = append(out, v(fmt.Sprint("V", i)))
	}
	return out
}

func atom(pred string, l ...api.Term) api.Atom { return api.Atom{Pred: pred, Args: l} }

func program(t *testing.T, source string) api.Program {
	t.Helper()
	p, fault := parse.Program(source)
	if fault != (api.Fault{}) {
		t.Fatalf("%s: %v", source, fault)
	}
	return p
}

func facts(t *testing.T, source string) []api.Fact {
	t.Helper()
	l, fault := parse.Facts(source)
	if fault != (api.Fault{}) {
		t.Fatalf("%s: %v", source, fault)
	}
	return l
}

func query(t *testing.T, source string) api.Atom {
	t.Helper()
	q, fault := parse.Query(source)
	if fault != (api.Fault{}) {
		t.Fatalf("%s: %v", source, fault)
	}
	return q
}

// showTuple writes values as a source has them; those by hand may be none.
func showTuple(l []api.Value) string {
	var out []string
	for _, v := range l {
		s, err := value.Show(v)
		if err != api.OK {
			s = fmt.Sprintf("%+v", v)
		}
		out = append(out, s)
	}
	return "(" + strings.Join(out, ", ") + ")"
}

func showTuples(l [][]api.Value) string {
	var out []string
	for _, x := range l {
		out = append(out, showTuple(x))
	}
	return strings.Join(out, " ")
}

// showFacts writes facts in one line.
func showFacts(l []api.Fact) string {
	var out []string
	for _, f := range l {
		out = append(out, f.Pred+showTuple(f.Args))
	}
	return strings.Join(out, " ")
}

func showCommits(l []api.Commit) string {
	var out []string
	for _, c := range l {
		out = append(out, fmt.Sprintf("%d: + %s - %s", c.Seq, showFacts(c.Added), showFacts(c.Removed)))
	}
	return strings.Join(out, "; ")
}

func fine() api.Refusal { return api.Refusal{} }

func ofQuery(err api.Errno) api.Refusal { return api.Refusal{Part: api.PartQuery, Code: err} }

// made is a database of things.
func made(t *testing.T, p api.Program, l []api.Fact) *store.DB {
	t.Helper()
	d, r := store.New(p, l)
	if d == nil || r != fine() {
		t.Fatalf("New of %d rules and %d facts: %v, %v", len(p.Rules), len(l), d, r)
	}
	return d
}

// of is a database of sources.
func of(t *testing.T, rules, given string) *store.DB {
	t.Helper()
	return made(t, program(t, rules), facts(t, given))
}

// asked is a database, or a transaction.
type asked interface {
	Ask(q api.Atom) ([][]api.Value, api.Refusal)
}

func wantAsk(t *testing.T, x asked, q api.Atom, want string, refusal api.Refusal) {
	t.Helper()
	if l, r := x.Ask(q); showTuples(l) != want || r != refusal {
		t.Errorf("Ask(%s of %d columns) = %s, %v; want %s, %v", q.Pred, len(q.Args), showTuples(l), r, want, refusal)
	}
}

// answers asks for the answers of a query as a source.
func answers(t *testing.T, x asked, q, want string) {
	t.Helper()
	if l, r := x.Ask(query(t, q)); showTuples(l) != want || r != fine() {
		t.Errorf("%s = %s, %v; want %s", q, showTuples(l), r, want)
	}
}

// adds and removes hand in facts as sources.
func adds(t *testing.T, x *store.Tx, source string) {
	t.Helper()
	for _, f := range facts(t, source) {
		if err := x.Add(f); err != api.OK {
			t.Errorf("Add of %s = %d", showFacts([]api.Fact{f}), err)
		}
	}
}

func removes(t *testing.T, x *store.Tx, source string) {
	t.Helper()
	for _, f := range facts(t, source) {
		if err := x.Remove(f); err != api.OK {
			t.Errorf("Remove of %s = %d", showFacts([]api.Fact{f}), err)
		}
	}
}

func wantCommit(t *testing.T, x *store.Tx, seq int, want api.Errno) {
	t.Helper()
	if n, err := x.Commit(); n != seq || err != want {
		t.Errorf("Commit() = %d, %d; want %d, %d", n, err, seq, want)
	}
}

func wantAt(t *testing.T, d *store.DB, seq int, want string) {
	t.Helper()
	if l, err := d.At(seq); showFacts(l) != want || err != api.OK {
		t.Errorf("At(%d) = %s, %d; want %s", seq, showFacts(l), err, want)
	}
}

func wantCommits(t *testing.T, d *store.DB, from int, want string) {
	t.Helper()
	if l, err := d.Commits(from); showCommits(l) != want || err != api.OK {
		t.Errorf("Commits(%d) = %s, %d; want %s", from, showCommits(l), err, want)
	}
}

func wantErr(t *testing.T, what string, err, want api.Errno) {
	t.Helper()
	if err != want {
		t.Errorf("%s = %d; want %d", what, err, want)
	}
}

// P28.2 to P28.9: the chapter's examples, one behind the other.
func TestExamples(t *testing.T) {
	if d, r := store.New(program(t, "p(X) :- q(Y)."), nil); d != nil || r != (api.Refusal{Part: api.PartProgram, Code: api.ErrSafe}) {
		t.Errorf("New of a rule that isn't safe = %v, %v", d, r)
	}
	d := of(t, low, "stock(a, 1). stock(b, 5).")
	wantSeqs(t, d)
	a, b := d.Begin(), d.Begin()
	answers(t, a, "low(X)?", `(a)`)
	removes(t, b, "stock(a, 1).")
	adds(t, b, "stock(a, 9). stock(b, 5).")
	wantErr(t, "Add of one column", b.Add(fact("stock", text("a"))), api.ErrArity)
	wantErr(t, "Add of a text", b.Add(fact("stock", text("a"), text("b"))), api.ErrType)
	adds(t, b, "low(1).")
	removes(t, b, "low(1).")
	wantCommit(t, b, 1, api.OK)
	wantCommit(t, b, 0, api.ErrDone)
	wantCommits(t, d, 1, "1: + stock(a, 9) - stock(a, 1)")
	answers(t, d, "low(X)?", "")
	answers(t, a, "low(X)?", "(a)")
	adds(t, a, "order(a).")
	wantErr(t, "Add of two columns", a.Add(fact("order", text("a"), text("b"))), api.ErrArity)
	answers(t, a, "order(X)?", "(a)")
	wantCommit(t, a, 0, api.ErrConflict)
	wantErr(t, "Drop behind the end", a.Drop(), api.ErrDone)
	if d.Seq() != 1 {
		t.Errorf("Seq() = %d; want 1", d.Seq())
	}
	wantTheOtherExamples(t, d)
}

func wantSeqs(t *testing.T, d *store.DB) {
	t.Helper()
	if d.Seq() != 0 {
		t.Errorf("Seq() = %d; want 0", d.Seq())
	}
	wantAt(t, d, 0, "stock(a, 1) stock(b, 5)")
	if l, err := d.At(1); l != nil || err != api.ErrSeq {
		t.Errorf("At(1) = %v, %d", l, err)
	}
	wantCommits(t, d, 1, "")
	if l, err := d.Commits(2); l != nil || err != api.ErrSeq {
		t.Errorf("Commits(2) = %v, %d", l, err)
	}
}

func wantTheOtherExamples(t *testing.T, d *store.DB) {
	t.Helper()
	c := d.Begin()
	adds(t, c, "order(a).")
	other := d.Begin()
	adds(t, other, "order(b).")
	wantCommit(t, other, 2, api.OK)
	wantCommit(t, c, 0, api.ErrConflict)
	e := d.Begin()
	adds(t, e, "stock(c, 1).")
	f := d.Begin()
	adds(t, f, "stock(c, 2).")
	wantCommit(t, f, 3, api.OK)
	wantCommit(t, e, 4, api.OK)
	wantAsk(t, e, query(t, "low(X)?"), "", api.Refusal{Code: api.ErrDone})
	answers(t, d, "low(X)?", "(c)")
	answers(t, d, "stock(c, X)?", "(c, 1) (c, 2)")
	wantAsk(t, d, query(t, "low(X, Y)?"), "", ofQuery(api.ErrArity))
	wantNothingThere(t, nil, nil)
}

// P28.2, P28.3: the first facts in order, each once; the program as it was handed in; facts and commits by their numbers.
func TestFactsByNumber(t *testing.T) {
	d := of(t, low, `stock(b, 5). stock(a, 1). order(2, 1). stock(b, 5). order(-1, "a b"). order(2, 1).`)
	at := []string{`order(-1, "a b") order(2, 1) stock(a, 1) stock(b, 5)`}
	commits := []string{}
	for i, x := range []struct{ add, remove, now, added, removed string }{
		{"stock(c, 1). low(a).", "", `low(a) order(-1, "a b") order(2, 1) stock(a, 1) stock(b, 5) stock(c, 1)`, "low(a) stock(c, 1)", ""},
		{"", "", `low(a) order(-1, "a b") order(2, 1) stock(a, 1) stock(b, 5) stock(c, 1)`, "", ""},
		{"", "stock(c, 1). order(2, 1). order(7, 7).", `low(a) order(-1, "a b") stock(a, 1) stock(b, 5)`, "", "order(2, 1) stock(c, 1)"},
		{"stock(c, 1). stock(b, 5).", "low(a).", `order(-1, "a b") stock(a, 1) stock(b, 5) stock(c, 1)`, "stock(c, 1)", "low(a)"},
		{"", `order(-1, "a b"). stock(a, 1). stock(b, 5). stock(c, 1).`, "", "", `order(-1, "a b") stock(a, 1) stock(b, 5) stock(c, 1)`},
		{"order(1). order(0).", "", "order(0) order(1)", "order(0) order(1)", ""},
	} {
		y := d.Begin()
		adds(t, y, x.add)
		removes(t, y, x.remove)
		wantCommit(t, y, i+1, api.OK)
		at, commits = append(at, x.now), append(commits, fmt.Sprintf("%d: + %s - %s", i+1, x.added, x.removed))
		wantAll(t, d, at, commits)
	}
	if want := program(t, low); fmt.Sprint(d.Program()) != fmt.Sprint(want) {
		t.Errorf("Program() = %v; want %v", d.Program(), want)
	}
	if d = of(t, "", ""); len(d.Program().Rules) != 0 {
		t.Errorf("Program() of no rules = %v", d.Program())
	}
	wantAll(t, d, []string{""}, nil)
}

// wantAll asks a database for all facts that ever were, and all commits.
func wantAll(t *testing.T, d *store.DB, at, commits []string) {
	t.Helper()
	if d.Seq() != len(commits) {
		t.Errorf("Seq() = %d; want %d", d.Seq(), len(commits))
	}
	for seq, want := range at {
		wantAt(t, d, seq, want)
	}
	for from := range len(commits) + 1 {
		wantCommits(t, d, from+1, strings.Join(commits[from:], "; "))
	}
	for _, seq := range []int{-1 << 63, -1, len(commits) + 1, 1<<63 - 1} {
		if l, err := d.At(seq); l != nil || err != api.ErrSeq {
			t.Errorf("At(%d) = %v, %d; want ErrSeq", seq, l, err)
		}
	}
	for _, from := range []int{-1 << 63, -1, 0, len(commits) + 2, 1<<63 - 1} {
		if l, err := d.Commits(from); l != nil || err != api.ErrSeq {
			t.Errorf("Commits(%d) = %v, %d; want ErrSeq", from, l, err)
		}
	}
}

// P28.4, P28.6: what is asked are the answers over the model: through rules, nots and aggregates, of what is given and what follows.
func TestAnswers(t *testing.T) {
	d := of(t, "anc(X, Y) :- par(X, Y). anc(X, Z) :- par(X, Y), anc(Y, Z). root(X) :- par(X, _), not par(_, X). n(count()) :- anc(X, Y). w(Y) :- n(X), Y = X + 1.", "par(ann, bob). par(bob, cy).")
	x := d.Begin()
	for _, y := range []asked{d, x} {
		answers(t, y, "anc(_, _)?", "(ann, bob) (ann, cy) (bob, cy)")
		answers(t, y, "anc(X, cy)?", "(ann, cy) (bob, cy)")
		answers(t, y, "anc(X, X)?", "")
		answers(t, y, "root(X)?", "(ann)")
		answers(t, y, "n(X)?", "(3)")
		answers(t, y, "w(4)?", "(4)")
		answers(t, y, "ghost(X, 1)?", "")
		answers(t, y, "par(1, X)?", "")
	}
	adds(t, x, "par(cy, ann). anc(1, 2). n(7). ghost(2, 1).")
	removes(t, x, "par(ann, bob). par(z, z).")
	answers(t, x, "anc(_, _)?", "(1, 2) (bob, ann) (bob, cy) (cy, ann)")
	answers(t, x, "root(X)?", "(bob)")
	answers(t, x, "n(X)?", "(4) (7)")
	answers(t, x, "w(X)?", "(5) (8)")
	answers(t, x, "ghost(X, 1)?", "(2, 1)")
	answers(t, d, "anc(_, _)?", "(ann, bob) (ann, cy) (bob, cy)")
	answers(t, d, "n(X)?", "(3)")
	wantCommit(t, x, 1, api.OK)
	answers(t, d, "w(X)?", "(5) (8)")
}

// P28.6, P28.7, P28.8: what a transaction touches last is what counts.
func TestTouchedLast(t *testing.T) {
	d := of(t, "", "e(1). e(2).")
	x := d.Begin()
	adds(t, x, "e(3). e(1). e(4).")
	removes(t, x, "e(2). e(3). e(9).")
	answers(t, x, "e(X)?", "(1) (4)")
	adds(t, x, "e(2). e(9).")
	removes(t, x, "e(9). e(1). e(1).")
	adds(t, x, "e(3). e(3).")
	answers(t, x, "e(X)?", "(2) (3) (4)")
	wantAt(t, d, 0, "e(1) e(2)")
	wantCommit(t, x, 1, api.OK)
	wantCommits(t, d, 1, "1: + e(3) e(4) - e(1)")
	wantAt(t, d, 1, "e(2) e(3) e(4)")
}

// P28.8: a commit turns what the facts now are, which may not be those at the Begin any more.
func TestTurnsOfTheFactsNow(t *testing.T) {
	d := of(t, low, "stock(a, 1). stock(b, 1). stock(c, 1).")
	x, y := d.Begin(), d.Begin()
	removes(t, y, "stock(a, 1). stock(b, 1).")
	adds(t, y, "stock(d, 1). stock(e, 1).")
	removes(t, x, "stock(a, 1). stock(c, 1). stock(e, 1).")
	adds(t, x, "stock(b, 1). stock(d, 1).")
	wantCommit(t, y, 1, api.OK)
	wantCommit(t, x, 2, api.OK)
	wantCommits(t, d, 1, "1: + stock(d, 1) stock(e, 1) - stock(a, 1) stock(b, 1); 2: + stock(b, 1) - stock(c, 1) stock(e, 1)")
	wantAt(t, d, 2, "stock(b, 1) stock(d, 1)")
}

// conflict is what one transaction does while another one turns something.
type conflict struct {
	ask, add, remove   string // what it does: a query, facts
	added, removed     string // what the other one does
	behind             bool   // the first one begins when the other one has ended
	want               api.Errno
	asksWhatIsRefused  api.Atom
	handsInWhatIsWrong api.Fact
}

func (c conflict) check(t *testing.T, i int) {
	t.Helper()
	d := of(t, "low(X) :- stock(X, N), N < 2, not off(X). n(count()) :- low(X). far(X) :- other(X). given(a).", "stock(a, 1). order(1). order(2). off(b). z(1). other(o).")
	x, y := d.Begin(), d.Begin()
	adds(t, y, c.added)
	removes(t, y, c.removed)
	if c.behind {
		wantCommit(t, y, 1, api.OK)
		x = d.Begin()
	}
	if c.ask != "" {
		x.Ask(query(t, c.ask))
	}
	if c.asksWhatIsRefused.Pred != "" {
		x.Ask(c.asksWhatIsRefused)
	}
	if c.handsInWhatIsWrong.Pred != "" {
		x.Add(c.handsInWhatIsWrong)
	}
	adds(t, x, c.add)
	removes(t, x, c.remove)
	if !c.behind {
		wantCommit(t, y, 1, api.OK)
	}
	was := d.Seq()
	n, err := x.Commit()
	if err != c.want || (n == was+1) != (c.want == api.OK) || d.Seq() != max(was, n) {
		t.Errorf("%d: %+v: Commit() = %d, %d", i, c, n, err)
	}
	if _, err := x.Commit(); err != api.ErrDone {
		t.Errorf("%d: %+v: Commit() again: %d", i, c, err)
	}
}

// P28.6, P28.7, P28.8: what is noted: by questions, by facts of predicates that the program doesn't have, whatever is answered; and what is not.
func TestConflicts(t *testing.T) {
	for i, c := range []conflict{
		{ask: "low(X)?", added: "stock(z, 9).", want: api.ErrConflict},
		{ask: "low(X)?", removed: "off(b).", want: api.ErrConflict},
		{ask: "low(X)?", added: "low(z).", want: api.ErrConflict},
		{ask: "low(a)?", added: "stock(z, 9).", want: api.ErrConflict},
		{ask: "low(X)?", added: "n(9).", want: api.OK},
		{ask: "n(X)?", added: "stock(z, 9).", want: api.ErrConflict},
		{ask: "stock(X, Y)?", added: "low(z). n(3). off(z). order(7).", want: api.OK},
		{ask: "far(X)?", added: "stock(z, 9).", want: api.OK},
		{ask: "far(X)?", removed: "other(o).", want: api.ErrConflict},
		{ask: "given(X)?", added: "given(b).", want: api.ErrConflict},
		{ask: "order(X)?", added: "order(3).", want: api.ErrConflict},
		{ask: "order(X)?", added: "orders(3). ord(3).", want: api.OK},
		{ask: "order(X)?", added: "order1(3). orderA(3). order_(3).", want: api.OK},
		{ask: "order1(X)?", added: "order(3). order10(3).", want: api.OK},
		{ask: "orderA(X)?", added: "order(3). orderA(3).", want: api.ErrConflict},
		{ask: "ghost(X)?", added: "ghost(3).", want: api.ErrConflict},
		{ask: "low(X, Y)?", added: "stock(z, 9).", want: api.ErrConflict},
		{asksWhatIsRefused: atom("low", api.Term{}), added: "stock(z, 9).", want: api.ErrConflict},
		{asksWhatIsRefused: atom("order", many(25)...), removed: "order(1).", want: api.ErrConflict},
		{asksWhatIsRefused: atom("q_low"), added: "stock(z, 9).", want: api.OK},
		{ask: "low(X)?", added: "stock(a, 1).", removed: "stock(z, 1). off(z).", want: api.OK},
		{ask: "low(X)?", added: "stock(z, 9).", behind: true, want: api.OK},
		{add: "order(3).", added: "order(4).", want: api.ErrConflict},
		{add: "order(3).", removed: "order(1).", want: api.ErrConflict},
		{add: "order(1).", removed: "order(2).", want: api.ErrConflict},
		{remove: "order(1).", added: "order(4).", want: api.ErrConflict},
		{remove: "order(9).", added: "order(4).", want: api.ErrConflict},
		{remove: "order(9).", added: "order(4).", behind: true, want: api.OK},
		{add: "order(3).", added: "order(1).", want: api.OK},
		{add: "order(3).", added: "stock(z, 9). z(2).", want: api.OK},
		{add: "stock(z, 1).", added: "stock(z, 2).", want: api.OK},
		{remove: "stock(a, 1).", removed: "stock(a, 1).", want: api.OK},
		{add: "off(b).", removed: "off(b).", want: api.OK},
		{add: "low(z). far(z). given(z). n(1).", added: "low(y). far(y). given(y). n(2).", want: api.OK},
		{handsInWhatIsWrong: fact("order", num(1), num(2)), added: "order(4).", want: api.ErrConflict},
		{handsInWhatIsWrong: fact("order", api.Value{}), added: "order(4).", want: api.ErrConflict},
		{handsInWhatIsWrong: wide("order", 9), added: "order(4).", want: api.ErrConflict},
		{handsInWhatIsWrong: fact("stock", num(1)), added: "stock(z, 1).", want: api.OK},
		{handsInWhatIsWrong: fact("stock", num(1), text("a")), added: "stock(z, 1).", want: api.OK},
	} {
		c.check(t, i)
	}
}

// P28.8: of the commits behind the Begin each counts, and those ahead of it don't.
func TestConflictsWithAnyCommit(t *testing.T) {
	for n := range 5 {
		for at := range 2 * n {
			d := of(t, low, "stock(a, 1).")
			var x *store.Tx
			for i := range 2 * n {
				if i == n {
					x = d.Begin()
				}
				y := d.Begin()
				if i == at {
					adds(t, y, "stock(b, 1).")
				} else {
					y.Add(nums("z", int64(i)))
				}
				wantCommit(t, y, i+1, api.OK)
			}
			x.Ask(query(t, "low(X)?"))
			x.Add(nums("e", 1))
			if at < n {
				wantCommit(t, x, 2*n+1, api.OK)
			} else {
				wantCommit(t, x, 0, api.ErrConflict)
			}
		}
	}
}

// P28.8, P28.9: where a transaction is refused or dropped, nothing of it happens.
func TestNothingHappens(t *testing.T) {
	d := of(t, low, "stock(a, 1).")
	x, y, z := d.Begin(), d.Begin(), d.Begin()
	adds(t, x, "stock(b, 1). order(1).")
	removes(t, x, "stock(a, 1).")
	wantErr(t, "Drop", x.Drop(), api.OK)
	answers(t, y, "low(X)?", "(a)")
	adds(t, y, "stock(c, 1).")
	removes(t, y, "stock(a, 1).")
	adds(t, z, "stock(d, 1).")
	wantCommit(t, z, 1, api.OK)
	wantCommit(t, y, 0, api.ErrConflict)
	wantAll(t, d, []string{"stock(a, 1)", "stock(a, 1) stock(d, 1)"}, []string{"1: + stock(d, 1) - "})
	answers(t, d, "low(X)?", "(a) (d)")
	answers(t, d, "order(X)?", "")
	for _, x := range []*store.Tx{x, y, z} {
		wantEnded(t, x)
	}
	wantAll(t, d, []string{"stock(a, 1)", "stock(a, 1) stock(d, 1)"}, []string{"1: + stock(d, 1) - "})
}

// wantEnded asks everything of a transaction that is not open.
func wantEnded(t *testing.T, x *store.Tx) {
	t.Helper()
	for range 2 {
		for _, q := range []api.Atom{atom("low", v("X")), atom("low"), {}, atom("q_p", many(30)...)} {
			if l, r := x.Ask(q); l != nil || r != (api.Refusal{Code: api.ErrDone}) {
				t.Errorf("Ask of %s of an ended one = %v, %v", q.Pred, l, r)
			}
		}
		for _, f := range []api.Fact{nums("e", 1), {}, fact("stock"), fact("q_p")} {
			wantErr(t, "Add to an ended one", x.Add(f), api.ErrDone)
			wantErr(t, "Remove from an ended one", x.Remove(f), api.ErrDone)
		}
		wantCommit(t, x, 0, api.ErrDone)
		wantErr(t, "Drop of an ended one", x.Drop(), api.ErrDone)
	}
}
