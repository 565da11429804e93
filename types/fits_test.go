package types_test

import (
	"slices"
	"strings"
	"testing"

	"pedigree/api"
)

// P8.4: facts as a source, Sigs, and whether they fit.
func TestFits(t *testing.T) {
	for _, c := range []struct {
		facts, sigs string
		want        bool
	}{
		{"e(1, a). f(b).", "e(n?)", true},
		{"e(1).", "e(n?)", false},
		{`e("1", a).`, "e(n?)", false},

		{"", "", true},
		{"", "e(n?) e(t) e(7)", true},
		{"e(1). e(a). e(1, 2). e.", "", true},
		{"e(1). e(a). e(1, 2). e.", "f(n) f(7)", true},
		{"e(1). e(2).", "e(n)", true},
		{"e(1). e(a).", "e(n)", false},
		{"e(a). e(1).", "e(n)", false},
		{"e(a). e(b).", "e(t)", true},
		{"e(a). e(0).", "e(t)", false},
		{"e(a). e(0).", "e(?)", true},
		{"e(a).", "e(3)", false},
		{"e(0).", "e(3)", false},
		{"e(0). f(a).", "f(t) e(n)", true},
		{"e(0). f(a).", "e(t) f(n)", false},
		{"f(a). e(0).", "e(t) f(t)", false},
		{"e.", "e()", true},
		{"e.", "e(?)", false},
		{"e(1).", "e()", false},
		{"e(1, 2, 3).", "e(n?)", false},
		{"e(1, a).", "e(n?) e(?t)", true},
		{"e(1, a).", "e(n?) e(?n)", false},
		{"e(1, a).", "e(?n) e(n?)", false},
		{"e(1, a).", "e(nt) e(nt) e(??)", true},
		{"e(1, a).", "e(nt) e(n)", false},
		{"e(1, a).", "e(n) e(nt)", false},
		{"e(1).", "e(nt) e(n)", false},
		{"e(1).", "e(n) e(t)", false},
		{"e(a).", "e(n) e(t)", false},
		{"e(a).", "e(?) e(5)", false},
		{"f(a). f(1).", "e(n) e(t) e()", true},
		{"e(1, a, 2).", "e(nt3)", false},
	} {
		wantFits(t, factsOf(t, c.facts), sigsOf(c.sigs), c.want)
	}
	for odd := -128; odd < 128; odd++ {
		if odd < 0 || odd > 2 {
			l := []api.Sig{{Pred: "e", Cols: []api.Type{api.TyAny, api.Type(odd)}}}
			wantFits(t, factsOf(t, "e(1, 2)."), l, false)
			wantFits(t, factsOf(t, "e(1, a)."), l, false)
			wantFits(t, factsOf(t, "f(1, a)."), l, true)
		}
	}
}

// P8.4: values that may not be fit nothing; what else a fact is, is not looked at.
func TestFitsOfAnything(t *testing.T) {
	for _, w := range []api.Value{{}, {Kind: 3}, {Kind: -1, Num: 1}, {Kind: api.KNum, Text: "a"}, {Kind: api.KNum, Num: 1, Text: "1"}, {Kind: api.KText, Num: 1}, {Kind: api.KText, Text: "a", Num: -1}, {Text: "a"}, {Num: 1}, text(strings.Repeat("a", 201))} {
		for _, sigs := range []string{"", "e(?)", "e(n)", "e(t)", "f(n)"} {
			wantFits(t, []api.Fact{fact("e", w)}, sigsOf(sigs), false)
			wantFits(t, []api.Fact{fact("g", num(1)), fact("g", num(1), text("a"), w, num(1)), fact("g")}, sigsOf(sigs), false)
		}
	}
	wide := slices.Repeat([]api.Value{num(1)}, 100)
	for _, pred := range []string{"", "E", "not", "_", "\xff", strings.Repeat("e", 121)} {
		wantFits(t, []api.Fact{fact(pred, wide...)}, nil, true)
		wantFits(t, []api.Fact{fact(pred, wide...)}, []api.Sig{{Pred: pred, Cols: slices.Repeat(typesOf("n"), 100)}}, true)
		wantFits(t, []api.Fact{fact(pred, wide...)}, []api.Sig{{Pred: pred, Cols: slices.Repeat(typesOf("n"), 99)}}, false)
		wantFits(t, []api.Fact{fact(pred, wide...)}, []api.Sig{{Pred: pred, Cols: append(slices.Repeat(typesOf("n"), 99), api.TyText)}}, false)
		wantFits(t, []api.Fact{fact(pred)}, []api.Sig{{Pred: pred}}, true)
	}
	wantFits(t, []api.Fact{fact("e", num(-1<<63), text(strings.Repeat("\xff", 200)), text(""))}, sigsOf("e(ntt)"), true)
	wantFits(t, []api.Fact{{}}, []api.Sig{{}}, true)
	wantFits(t, []api.Fact{{}, {}}, []api.Sig{{Cols: typesOf("?")}}, false)
}

// P8.4: many facts, and many Sigs of one name.
func TestFitsOfMany(t *testing.T) {
	l := slices.Repeat(factsOf(t, "e(1, a). f(b). e(2, \"\")."), 30000)
	sigs := slices.Repeat(sigsOf("e(n?) f(t) e(?t)"), 30000)
	wantFits(t, l, sigs, true)
	wantFits(t, append(l, fact("e", text("a"), text("a"))), sigs, false)
	wantFits(t, append(l, fact("g", num(1))), sigs, true)
	wantFits(t, l, append(sigs, sigsOf("f(n)")...), false)
}
