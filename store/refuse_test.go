package store_test

import (
	"strings"
	"testing"

	"pedigree/api"
	"pedigree/engine"
	"pedigree/store"
)

// wantNothingThere makes every call of a database and a transaction that are not there.
func wantNothingThere(t *testing.T, d *store.DB, x *store.Tx) {
	t.Helper()
	gone := api.Refusal{Code: api.ErrNil}
	if p := d.Program(); len(p.Rules) != 0 || d.Seq() != 0 || d.Begin() != nil {
		t.Errorf("Program() = %v, Seq() = %d, Begin() = %v", p, d.Seq(), d.Begin())
	}
	for _, n := range []int{-1, 0, 1, 1 << 40} {
		if l, err := d.At(n); l != nil || err != api.ErrNil {
			t.Errorf("At(%d) = %v, %d", n, l, err)
		}
		if l, err := d.Commits(n); l != nil || err != api.ErrNil {
			t.Errorf("Commits(%d) = %v, %d", n, l, err)
		}
	}
	for _, q := range []api.Atom{atom("p", v("X")), {}, atom("q_p")} {
		if l, r := d.Ask(q); l != nil || r != gone {
			t.Errorf("DB.Ask = %v, %v", l, r)
		}
		if l, r := x.Ask(q); l != nil || r != gone {
			t.Errorf("Tx.Ask = %v, %v", l, r)
		}
	}
	for _, f := range []api.Fact{nums("p", 1), {}} {
		wantErr(t, "Add", x.Add(f), api.ErrNil)
		wantErr(t, "Remove", x.Remove(f), api.ErrNil)
	}
	wantCommit(t, x, 0, api.ErrNil)
	wantErr(t, "Drop", x.Drop(), api.ErrNil)
}

// R3: what is not there, and what no call has made.
func TestNothingThere(t *testing.T) {
	wantNothingThere(t, nil, nil)
	d, x := new(store.DB), new(store.Tx)
	for range 2 {
		wantNothingThere(t, d, x)
	}
}

// P28.2: New refuses what Fit refuses, and nothing else.
func TestNewRefuses(t *testing.T) {
	for _, x := range []struct {
		rules string
		given string
		want  api.Refusal
	}{
		{"", "", fine()},
		{low, "stock(a, 1). low(b). x. y(1, a).", fine()},
		{"p(X) :- e(X). q_p(X) :- e(X).", "e(1, 2).", api.Refusal{Part: api.PartProgram, Code: api.ErrReserved, At: 1}},
		{"p(X) :- e(X). e(X) :- p(X, X).", "", api.Refusal{Part: api.PartProgram, Code: api.ErrArity, At: 1}},
		{low, "stock(a, 1). stock(a).", api.Refusal{Part: api.PartFacts, Code: api.ErrArity, At: 1}},
		{low, "x(a, 1). low(a). x(a).", api.Refusal{Part: api.PartFacts, Code: api.ErrArity, At: 2}},
		{low, "stock(a, 1). stock(a, 2). stock(1, a).", api.Refusal{Part: api.PartFacts, Code: api.ErrType, At: 2}},
		{low, "q_x(1).", api.Refusal{Part: api.PartFacts, Code: api.ErrReserved}},
		{"p(1). p(a).", "", api.Refusal{Part: api.PartProgram, Code: api.ErrType, At: 1}},
		{"p :- not r. r :- p.", "", api.Refusal{Part: api.PartProgram, Code: api.ErrNegCycle}},
	} {
		p, l := program(t, x.rules), facts(t, x.given)
		d, r := store.New(p, l)
		if r != x.want || r != engine.Fit(p, l) || (d == nil) != (r != fine()) {
			t.Errorf("New(%s, %s) = %v, %v; want %v", x.rules, x.given, d, r, x.want)
		}
	}
	if d, r := store.New(api.Program{Rules: make([]api.Rule, 501)}, nil); d != nil || r != (api.Refusal{Part: api.PartProgram, Code: api.ErrSize}) {
		t.Errorf("New of 501 rules = %v, %v", d, r)
	}
	if d, r := store.New(api.Program{}, make([]api.Fact, api.MaxFacts+1)); d != nil || r != (api.Refusal{Part: api.PartFacts, Code: api.ErrSize}) {
		t.Errorf("New of too many facts = %v, %v", d, r)
	}
}

// refusedQuery is a query, and why it is refused over the facts x(1), y(a, b) and stock(a, 1).
type refusedQuery struct {
	q    api.Atom
	want api.Errno
}

func refusedQueries() []refusedQuery {
	long, longer := strings.Repeat("a", 24), strings.Repeat("a", 25)
	return []refusedQuery{
		{api.Atom{}, api.ErrTerm}, {atom("X"), api.ErrTerm}, {atom("not"), api.ErrTerm}, {atom("a b"), api.ErrTerm}, {atom("low", v("x")), api.ErrTerm},
		{atom("low", api.Term{}), api.ErrTerm}, {atom("low", api.Term{Var: "X", Val: num(1)}), api.ErrTerm}, {atom("low", api.Term{Val: api.Value{Kind: 9}}), api.ErrTerm},
		{atom("low", many(25)...), api.ErrTerm}, {atom(strings.Repeat("a", 121)), api.ErrTerm}, {atom("q_"+longer, v("")), api.ErrTerm},
		{atom(longer), api.ErrSize}, {atom("low", v("X"+long)), api.ErrSize}, {atom("x", v("Y"), v("X"+long)), api.ErrSize}, {atom("x", many(9)...), api.ErrSize}, {atom("low", many(24)...), api.ErrSize},
		{atom("q_" + longer), api.ErrSize}, {atom("q_x", many(9)...), api.ErrSize}, {atom(strings.Repeat("a", 120)), api.ErrSize},
		{atom("q_"), api.ErrReserved}, {atom("q_x", v("X")), api.ErrReserved}, {atom("q_stock"), api.ErrReserved},
		{atom("low"), api.ErrArity}, {atom("low", many(8)...), api.ErrArity}, {atom("stock", v("X")), api.ErrArity}, {atom("x"), api.ErrArity}, {atom("x", many(2)...), api.ErrArity}, {atom("y", v("X")), api.ErrArity},
		{atom("x", v("X")), api.OK}, {atom("y", many(2)...), api.OK}, {atom("z"), api.OK}, {atom("z", many(8)...), api.OK}, {atom(long), api.OK}, {atom("w", v("A"+long[1:])), api.OK},
		{atom("stock", api.Term{Val: num(1)}, api.Term{Val: text("a")}), api.OK}, {atom("q", v("_")), api.OK},
	}
}

// P28.1, P28.4, P28.6: each query by its first reason, of the database and of a transaction.
func TestQueriesRefused(t *testing.T) {
	d := of(t, low, "stock(a, 1). x(1). y(a, b).")
	x := d.Begin()
	for _, y := range refusedQueries() {
		for _, asks := range []asked{d, x} {
			l, r := asks.Ask(y.q)
			if y.want == api.OK && r != fine() || y.want != api.OK && (l != nil || r != ofQuery(y.want)) {
				t.Errorf("Ask(%s of %d columns) = %v, %v; want %d", y.q.Pred, len(y.q.Args), l, r, y.want)
			}
		}
	}
	wantAsk(t, d, atom("stock", v("X"), v("Y")), "(a, 1)", fine())
	wantCommit(t, x, 1, api.OK)
}

// P28.1, P28.6: the facts that a query is held against are those that are seen, as they are then.
func TestColumnsOfWhatIsSeen(t *testing.T) {
	d := of(t, low, "x(1). y(a, b). y(a, c).")
	x, z := d.Begin(), d.Begin()
	removes(t, x, "x(1). y(a, b).")
	wantAsk(t, x, atom("x", many(2)...), "", fine())
	wantAsk(t, x, atom("y", v("X")), "", ofQuery(api.ErrArity))
	adds(t, x, "x(3, 4).")
	wantAsk(t, x, atom("x", many(2)...), "(3, 4)", fine())
	wantAsk(t, x, atom("x", v("X")), "", ofQuery(api.ErrArity))
	wantAsk(t, d, atom("x", many(2)...), "", ofQuery(api.ErrArity))
	wantCommit(t, x, 1, api.OK)
	wantAsk(t, d, atom("x", many(2)...), "(3, 4)", fine())
	wantAsk(t, d, atom("x", v("X")), "", ofQuery(api.ErrArity))
	wantAsk(t, z, atom("x", v("X")), "(1)", fine())
	wantAsk(t, z, atom("x", many(2)...), "", ofQuery(api.ErrArity))
	adds(t, z, "x(2).")
	wantErr(t, "Add of two columns", z.Add(nums("x", 1, 2)), api.ErrArity)
	wantCommit(t, z, 0, api.ErrConflict)
	wantAt(t, d, 1, "x(3, 4) y(a, c)")
}

// refusedFact is a fact, and why it is refused where x(1) and y(a, b) are seen.
type refusedFact struct {
	f    api.Fact
	want api.Errno
}

func refusedFacts() []refusedFact {
	long, longer := strings.Repeat("a", 24), strings.Repeat("a", 25)
	no := api.Value{}
	return []refusedFact{
		{api.Fact{}, api.ErrValue}, {fact("X"), api.ErrValue}, {fact("count"), api.ErrValue}, {fact("a b"), api.ErrValue}, {fact("x", no), api.ErrValue}, {fact("stock", text("a"), no), api.ErrValue},
		{fact("x", api.Value{Kind: api.KNum, Text: "a"}), api.ErrValue}, {fact("x", api.Value{Kind: api.KText, Num: 1}), api.ErrValue}, {fact("x", text(strings.Repeat("a", 201))), api.ErrValue},
		{fact(strings.Repeat("a", 121)), api.ErrValue}, {wide("x", 25), api.ErrValue}, {fact("q_"+longer, no), api.ErrValue},
		{fact(longer), api.ErrSize}, {wide("x", 9), api.ErrSize}, {wide("stock", 24), api.ErrSize}, {fact("q_" + longer), api.ErrSize}, {wide("q_", 9), api.ErrSize}, {fact(strings.Repeat("a", 120)), api.ErrSize},
		{fact("q_"), api.ErrReserved}, {nums("q_x", 1), api.ErrReserved},
		{fact("stock", text("a")), api.ErrArity}, {fact("stock", text("a"), text("a"), text("a")), api.ErrArity}, {fact("low"), api.ErrArity}, {fact("x"), api.ErrArity}, {nums("x", 1, 2), api.ErrArity}, {fact("y", text("a")), api.ErrArity},
		{fact("stock", text("a"), text("b")), api.ErrType}, {fact("stock", num(1), text("")), api.ErrType},
		{fact("stock", num(1), num(2)), api.OK}, {fact("stock", text("a"), num(2)), api.OK}, {fact("low", num(1)), api.OK}, {fact("low", text("b")), api.OK}, {fact("x", text("a")), api.OK}, {nums("y", 1, 2), api.OK},
		{wide("z", 8), api.OK}, {fact(long), api.OK}, {fact("x", text(strings.Repeat("a", 200))), api.OK}, {fact("q"), api.OK},
	}
}

// P28.7: each fact by its first reason, added and removed, once and again; what is refused touches nothing.
func TestFactsRefused(t *testing.T) {
	for _, y := range refusedFacts() {
		d := of(t, low, "x(1). y(a, b).")
		in, out := d.Begin(), d.Begin()
		for range 3 {
			wantErr(t, "Add of "+showFacts([]api.Fact{y.f}), in.Add(y.f), y.want)
			wantErr(t, "Remove of "+showFacts([]api.Fact{y.f}), out.Remove(y.f), y.want)
		}
		wantErr(t, "Remove", in.Remove(y.f), y.want)
		wantErr(t, "Add", in.Add(y.f), y.want)
		wantCommit(t, out, 1, api.OK)
		wantCommit(t, in, 2, api.OK)
		added := ""
		if y.want == api.OK {
			added = showFacts([]api.Fact{y.f})
		}
		wantCommits(t, d, 1, "1: +  - ; 2: + "+added+" - ")
	}
}

// P28.7: of predicates that the program doesn't have the columns are held against what is seen, as it is then.
func TestColumnsOfWhatIsAdded(t *testing.T) {
	d := of(t, low, "x(1). x(2). y(a).")
	z := d.Begin()
	for _, y := range []struct {
		add  bool
		f    api.Fact
		want api.Errno
	}{
		{false, nums("x", 1), api.OK}, {true, nums("x", 1, 1), api.ErrArity}, {false, nums("x", 3), api.OK}, {false, nums("x", 1), api.OK}, {true, nums("x", 1, 1), api.ErrArity},
		{false, nums("x", 2), api.OK}, {false, nums("x", 7, 7), api.OK}, {true, nums("x", 1, 1), api.OK}, {true, nums("x", 1, 1), api.OK}, {true, nums("x", 1), api.ErrArity}, {false, nums("x", 1), api.ErrArity},
		{false, nums("x", 1, 1), api.OK}, {true, nums("x", 2), api.OK}, {true, nums("x", 1, 1), api.ErrArity}, {false, nums("x", 2), api.OK}, {true, fact("x"), api.OK}, {true, nums("x", 2), api.ErrArity},
		{false, fact("y"), api.ErrArity}, {true, fact("y", text("b")), api.OK}, {false, fact("y", text("a")), api.OK}, {true, fact("y"), api.ErrArity}, {false, fact("y", text("b")), api.OK}, {true, fact("y"), api.OK},
		{false, nums("new", 1, 2), api.OK}, {true, nums("new", 1), api.OK}, {false, nums("new", 1, 2), api.ErrArity}, {true, nums("new", 2), api.OK}, {false, nums("new", 1), api.OK}, {true, fact("new"), api.ErrArity},
	} {
		err := z.Remove
		if y.add {
			err = z.Add
		}
		wantErr(t, showFacts([]api.Fact{y.f}), err(y.f), y.want)
	}
	wantCommit(t, z, 1, api.OK)
	wantAt(t, d, 1, "new(2) x() y()")
	z = d.Begin()
	wantErr(t, "Add of one column", z.Add(nums("x", 1)), api.ErrArity)
	wantErr(t, "Add of none", z.Add(fact("x")), api.OK)
}

// P28.1, P28.7: predicates whose names begin alike have nothing to do with one another.
func TestNamesThatBeginAlike(t *testing.T) {
	d := of(t, "p(X) :- pn(X), X > 1. pt(X) :- p(X), pnn(X, 1).", "x(1). x1(1, 2). xA(a, b, c). x_.")
	z := d.Begin()
	adds(t, z, "p(1). pt(2). pn(3). pnn(3, 4).")
	for _, f := range []api.Fact{fact("pn"), fact("pt"), fact("p", text("a")), fact("pnn"), nums("pnn", 1), nums("x", 1, 2), nums("x1", 1), fact("xA"), nums("x_", 1)} {
		want := api.ErrArity
		if f.Pred == "p" {
			want = api.ErrType
		}
		wantErr(t, showFacts([]api.Fact{f}), z.Add(f), want)
		wantErr(t, showFacts([]api.Fact{f}), z.Remove(f), want)
	}
	adds(t, z, "x(3). x1(3, 4). xA(1, 2, 3). xB. xZ(1).")
	for _, asks := range []asked{d, z} {
		wantAsk(t, asks, atom("x", many(2)...), "", ofQuery(api.ErrArity))
		wantAsk(t, asks, atom("x1", many(1)...), "", ofQuery(api.ErrArity))
		wantAsk(t, asks, atom("x0", many(5)...), "", fine())
	}
	wantAsk(t, z, atom("x", v("X")), "(1) (3)", fine())
	wantAsk(t, z, atom("x_"), "()", fine())
}
