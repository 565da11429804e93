package types_test

import (
	"slices"
	"strings"
	"testing"

	"pedigree/api"
)

// P8.3: the chapter's rule under Sigs.
func TestVars(t *testing.T) {
	r := ruleOf(t, "p(X) :- e(X, Y), Z = Y + 1.")
	for sigs, want := range map[string]string{
		"e(??)":               "?nn",
		"e(tn) q(t)":          "tnn",
		"":                    "?nn",
		"e(nn)":               "nnn",
		"p(t)":                "tnn",
		"p(n) e(?n)":          "nnn",
		"p(?) e(??) e(??)":    "?nn",
		"e(??) e(n?)":         "nnn",
		"e(n?) e(?n)":         "nnn",
		"e(t?) p(t) e(t?)":    "tnn",
		"q(t) q(t)":           "?nn",
		"q(t) q() q(tn) q(?)": "?nn",
		"Z(t) X(t) Y(t)":      "?nn",
	} {
		wantVars(t, r, sigsOf(sigs), want)
	}
	for sigs, code := range map[string]api.Errno{
		"e(?t)":                  api.ErrType,
		"e(n)":                   api.ErrArity,
		"e(7?)":                  api.ErrArg,
		"p(n) e(t?)":             api.ErrType,
		"e(n?) e(t?)":            api.ErrType,
		"q(n) q(t)":              api.ErrType,
		"q(?n) q(?t)":            api.ErrType,
		"q(n) q(?t) q(tt)":       api.ErrType,
		"q() q(??n) q(n) q(nnt)": api.ErrType,
		"e()":                    api.ErrArity,
		"e(??) e(???)":           api.ErrArity,
		"e(???) e(??)":           api.ErrArity,
		"e(??) q(t) p()":         api.ErrArity,
		"p(??)":                  api.ErrArity,
		"q(n) q(t) p(??)":        api.ErrArity,
		"q(n) q(t) p(??) r(3)":   api.ErrArg,
		"z(???????9)":            api.ErrArg,
	} {
		refuseVars(t, r, sigsOf(sigs), code)
	}
	for _, odd := range []api.Type{-1, 3, 127, -128} {
		refuseVars(t, r, []api.Sig{{Pred: "", Cols: []api.Type{api.TyNum, odd}}}, api.ErrArg)
	}
}

// P8.3: rules, each with Sigs and the types of its variables in the order of term.RuleVars.
func TestVarsOfRules(t *testing.T) {
	for _, c := range [][3]string{
		{"p.", "", ""},
		{"p(1) :- e(_, a).", "e(??)", ""},
		{"p(Z, Y) :- e(X, Y, Z).", "e(nt?)", "?tn"},
		{"p(Y, X) :- e(X, Y), f(X).", "f(t)", "?t"},
		{"p(X) :- e(X), not f(X, 1).", "f(tn)", "t"},
		{"p(X) :- e(X), not f(X, 1).", "f(?n)", "?"},
		{"p(count(), sum(X), min(Y), max(Z)) :- e(X, Y, Z).", "", "n??"},
		{"p(count(), sum(X), min(Y), max(Z)) :- e(X, Y, Z).", "p(nntn)", "ntn"},
		{"p(count(), sum(X), min(Y), max(Z)) :- e(X, Y, Z).", "e(?tt) p(????)", "ntt"},
		{"p(A) :- e(A), B = A, C = B, D = C & a.", "", "tttt"},
		{"p(A) :- e(A), B = A, C = B, D = len(C).", "", "tttn"},
		{"p(A) :- e(A, B), A < B.", "e(?n)", "nn"},
		{"p(A) :- e(A, B), A != B.", "p(t)", "tt"},
		{"p(A, A) :- e(A).", "p(?t)", "t"},
		{"p(X, Y) :- p(Y, X).", "p(n?)", "nn"},
		{"p(X, Y) :- e(X, Y), p(_, _).", "p(n?)", "n?"},
	} {
		wantVars(t, ruleOf(t, c[0]), sigsOf(c[1]), c[2])
	}
	for _, c := range [][2]string{
		{"p(count()) :- e(X).", "p(t)"},
		{"p(sum(X)) :- e(X).", "p(t)"},
		{"p(sum(X)) :- e(X).", "e(t)"},
		{"p(min(X)) :- e(X).", "e(t) p(n)"},
		{"p(max(X)) :- e(X).", "e(n) p(t)"},
		{"p(X) :- e(X), not f(X).", "e(n) f(t)"},
		{"p(1) :- e(_).", "p(t)"},
		{"p :- e(_), not f(a).", "f(n)"},
		{"p(X, Y) :- p(Y, X).", "p(nt)"},
		{"p :- e(A, B), A >= B.", "e(nt)"},
		{"p :- e(A), 1 = a.", ""},
		{"p :- e(A), 1 + 1 = A.", "e(t)"},
		{"p :- e(1), e(a).", ""},
	} {
		refuseVars(t, ruleOf(t, c[0]), sigsOf(c[1]), api.ErrType)
	}
	for _, source := range []string{"p(X) :- p(X, X).", "p(X) :- q(X), not q(X, X).", "p :- q(X, 1), q(1), 1 = a."} {
		refuseVars(t, ruleOf(t, source), nil, api.ErrArity)
		refuseVars(t, ruleOf(t, source), sigsOf("z(n) z(t)"), api.ErrArity)
		refuseVars(t, ruleOf(t, source), sigsOf("z(n) z(3)"), api.ErrArg)
	}
	refuseVars(t, ruleOf(t, "p(X)."), sigsOf("p(9) p(nt)"), api.ErrSafe)
}

// P8.3: of several things that are wrong, the one that is named first.
func TestFirstErrorOfVars(t *testing.T) {
	for number := range 32 {
		r := rule("p", head(v("X")), pos("e", v("X")))
		sigs := []api.Sig{{Pred: "e", Cols: typesOf("?")}}
		code := api.OK
		for i, step := range []struct {
			code api.Errno
			do   func()
		}{
			{api.ErrType, func() { sigs = append(sigs, sigsOf("z(n) z(t)")...) }},
			{api.ErrArity, func() { sigs = append(sigs, sigsOf("e(nn)")...) }},
			{api.ErrArg, func() { sigs = append(sigs, sigsOf("y(4)")...) }},
			{api.ErrSafe, func() { r.Head = head(v("Y")) }},
			{api.ErrTerm, func() { r.Body = append(r.Body, api.Literal{}) }},
		} {
			if number>>i&1 == 1 {
				step.do()
				code = step.code
			}
		}
		for range 2 {
			if slices.Reverse(sigs); code == api.OK {
				wantVars(t, r, sigs, "?")
			} else {
				refuseVars(t, r, sigs, code)
			}
		}
	}
}

// P8.3: many Sigs, and wide ones.
func TestManySigs(t *testing.T) {
	r := ruleOf(t, "p(X) :- e(X, Y), Z = Y + 1.")
	many := slices.Repeat(sigsOf("e(t?) q(n) e(?n) q(?nnt)"), 50000)
	wantVars(t, r, many, "tnn")
	refuseVars(t, r, append(many, sigsOf("q(???n)")...), api.ErrType)
	refuseVars(t, r, append(many, sigsOf("p()")...), api.ErrArity)
	wantVars(t, r, sigsOf("w("+strings.Repeat("n?t", 100000)+")"), "?nn")
	refuseVars(t, r, sigsOf("w("+strings.Repeat("n?t", 100000)+"3)"), api.ErrArg)
}
