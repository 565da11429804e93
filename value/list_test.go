package value_test

import (
	"math"
	"slices"
	"strings"
	"testing"

	"pedigree/api"
	"pedigree/value"
)

// risingTuples rise strictly, values that may not be among them.
func risingTuples() [][]api.Value {
	return [][]api.Value{
		{},
		{{Kind: -1}},
		{{}},
		{{}, {}},
		{num(math.MinInt64)},
		{num(-1), text("z")},
		{num(1)},
		{num(1), {}},
		{num(1), num(-5)},
		{num(1), num(1)},
		{num(1), num(1), num(0)},
		{num(1), num(2)},
		{num(1), text("")},
		{{Kind: api.KNum, Num: 1, Text: "a"}},
		{num(2)},
		{num(10)},
		{text("")},
		{text("a"), text("b")},
		{text("ab")},
		{text("b"), num(-1)},
		{text(strings.Repeat("b", 300))},
		{{Kind: 9}},
	}
}

// risingFacts rise strictly: names that are none count like the others.
func risingFacts() []api.Fact {
	var out []api.Fact
	for _, pred := range []string{"", "9", "P", "a", "a\x00", "aB", "ab", "b", "\xff"} {
		for _, l := range risingTuples() {
			out = append(out, api.Fact{Pred: pred, Args: l})
		}
	}
	return out
}

// P1.7
func TestCompareTuples(t *testing.T) {
	l := risingTuples()
	for i, a := range l {
		for j, b := range l {
			if got := value.CompareTuples(a, b); got != sign(i-j) {
				t.Errorf("CompareTuples(%#v, %#v) = %d", a, b, got)
			}
		}
	}
	if value.CompareTuples(nil, []api.Value{}) != 0 || value.CompareTuples(nil, l[1]) != -1 || value.CompareTuples(l[1], nil) != 1 {
		t.Errorf("nil is not as the empty tuple")
	}
}

// P1.7
func TestCompareFacts(t *testing.T) {
	l := risingFacts()
	for i, a := range l {
		for j, b := range l {
			if got := value.CompareFacts(a, b); got != sign(i-j) {
				t.Errorf("CompareFacts(%#v, %#v) = %d", a, b, got)
			}
		}
	}
	if value.CompareFacts(api.Fact{}, api.Fact{Args: []api.Value{}}) != 0 {
		t.Errorf("nil is not as the empty tuple")
	}
}

// shuffled holds each item three times, in an order that neither rises nor falls.
func shuffled[T any](l []T) []T {
	var out []T
	for i := range l {
		out = append(out, l[i], l[len(l)-1-i], l[i*7%len(l)])
	}
	return out
}

func sameTuple(a, b []api.Value) bool { return slices.Equal(a, b) }

func sameFact(a, b api.Fact) bool { return a.Pred == b.Pred && slices.Equal(a.Args, b.Args) }

// P1.8, R5
func TestTuples(t *testing.T) {
	want := risingTuples()
	for _, l := range [][][]api.Value{want, shuffled(want), append(shuffled(want), nil, []api.Value{})} {
		for range 3 {
			if got := value.Tuples(l); !slices.EqualFunc(got, want, sameTuple) {
				t.Errorf("Tuples(%#v) = %#v", l, got)
			}
		}
	}
	if len(value.Tuples(nil)) != 0 || len(value.Tuples([][]api.Value{})) != 0 {
		t.Errorf("Tuples of nothing is something")
	}
	if got := value.Tuples([][]api.Value{{}, nil, {}}); len(got) != 1 || len(got[0]) != 0 {
		t.Errorf("Tuples of empty ones = %#v", got)
	}
}

// P1.8, R5
func TestFacts(t *testing.T) {
	want := risingFacts()
	for _, l := range [][]api.Fact{want, shuffled(want)} {
		for range 3 {
			if got := value.Facts(l); !slices.EqualFunc(got, want, sameFact) {
				t.Errorf("Facts(%#v) = %#v", l, got)
			}
		}
	}
	if len(value.Facts(nil)) != 0 || len(value.Facts([]api.Fact{})) != 0 {
		t.Errorf("Facts of nothing is something")
	}
	if got := value.Facts([]api.Fact{{}, {Args: []api.Value{}}, {}}); len(got) != 1 || len(got[0].Args) != 0 {
		t.Errorf("Facts of empty ones = %#v", got)
	}
}

// roomy is a copy of l with spare room behind it, in which the mark stands.
func roomy[T any](l []T, mark T) []T {
	out := append(make([]T, 0, len(l)+2), l...)
	room := out[len(l) : len(l)+2]
	room[0], room[1] = mark, mark
	return out
}

func roomyTuples(l [][]api.Value) [][]api.Value {
	var out [][]api.Value
	for _, x := range l {
		out = append(out, roomy(x, num(77)))
	}
	return roomy(out, []api.Value{num(88)})
}

func roomyFacts(l []api.Fact) []api.Fact {
	var out []api.Fact
	for _, x := range l {
		out = append(out, api.Fact{Pred: x.Pred, Args: roomy(x.Args, num(77))})
	}
	return roomy(out, api.Fact{Pred: "mark", Args: []api.Value{num(88)}})
}

// overwrite spoils a list with its spare room: what shares memory with it can't stay as it was.
func overwrite(l []api.Value) {
	l = l[:cap(l)]
	for i := range l {
		l[i] = text("spoilt")
	}
}

func overwriteTuples(l [][]api.Value) {
	l = l[:cap(l)]
	for i := range l {
		overwrite(l[i])
		l[i] = []api.Value{text("spoilt")}
	}
}

func overwriteFacts(l []api.Fact) {
	l = l[:cap(l)]
	for i := range l {
		overwrite(l[i].Args)
		l[i] = api.Fact{Pred: "spoilt"}
	}
}

func sameTuples(a, b [][]api.Value) bool { return slices.EqualFunc(a, b, sameTuple) }

func sameFacts(a, b []api.Fact) bool { return slices.EqualFunc(a, b, sameFact) }

// wholeTuples is a list with its spare room, and each tuple with its own.
func wholeTuples(l [][]api.Value) [][]api.Value {
	var out [][]api.Value
	for _, x := range l[:cap(l)] {
		out = append(out, x[:cap(x)])
	}
	return out
}

func wholeFacts(l []api.Fact) []api.Fact {
	var out []api.Fact
	for _, x := range l[:cap(l)] {
		out = append(out, api.Fact{Pred: x.Pred, Args: x.Args[:cap(x.Args)]})
	}
	return out
}

// R4
func TestTuplesSharesNothing(t *testing.T) {
	want := risingTuples()
	in, as := roomyTuples(shuffled(want)), roomyTuples(shuffled(want))
	first := value.Tuples(in)
	second := value.Tuples(in)
	if !sameTuples(wholeTuples(in), wholeTuples(as)) {
		t.Fatalf("Tuples changed what was handed in")
	}
	overwriteTuples(first)
	if !sameTuples(wholeTuples(in), wholeTuples(as)) {
		t.Errorf("an answer shares memory with what was handed in")
	}
	if !sameTuples(second, want) {
		t.Errorf("two answers share memory")
	}
	overwriteTuples(in)
	if !sameTuples(second, want) {
		t.Errorf("an answer shares memory with what was handed in")
	}
	for i := range second {
		overwrite(second[i])
		if !sameTuples(second[i+1:], want[i+1:]) {
			t.Fatalf("two lists of one answer share memory")
		}
	}
}

// R4
func TestFactsSharesNothing(t *testing.T) {
	want := risingFacts()
	in, as := roomyFacts(shuffled(want)), roomyFacts(shuffled(want))
	first := value.Facts(in)
	second := value.Facts(in)
	if !sameFacts(wholeFacts(in), wholeFacts(as)) {
		t.Fatalf("Facts changed what was handed in")
	}
	overwriteFacts(first)
	if !sameFacts(wholeFacts(in), wholeFacts(as)) {
		t.Errorf("an answer shares memory with what was handed in")
	}
	if !sameFacts(second, want) {
		t.Errorf("two answers share memory")
	}
	overwriteFacts(in)
	if !sameFacts(second, want) {
		t.Errorf("an answer shares memory with what was handed in")
	}
	for i := range second {
		overwrite(second[i].Args)
		if !sameFacts(second[i+1:], want[i+1:]) {
			t.Fatalf("two lists of one answer share memory")
		}
	}
}

// R4: the list behind the variadic arguments is the caller's own; and the tuples that are compared.
func TestArgumentsStayAsTheyAre(t *testing.T) {
	for op := api.OpTerm; op <= api.OpBack; op++ {
		for _, v := range values() {
			for _, w := range []api.Value{num(0), num(-1), text("a")} {
				in, as := roomy([]api.Value{v, w}, num(77)), roomy([]api.Value{v, w}, num(77))
				value.Arith(op, in...)
				value.Arith(op, in[:1]...)
				value.CompareTuples(in, in[1:])
				value.CompareFacts(api.Fact{Args: in}, api.Fact{Args: in[:1]})
				if !slices.Equal(in[:cap(in)], as[:cap(as)]) {
					t.Fatalf("the operation %d turned %#v into %#v", op, as, in)
				}
			}
		}
	}
}
