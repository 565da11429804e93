package check_test

import (
	"slices"
	"strconv"
	"testing"

	"pedigree/api"
	"pedigree/check"
	"pedigree/parse"
)

func wantLimited(t *testing.T, body []api.Literal, want ...string) {
	t.Helper()
	if got := check.Limited(body); !slices.Equal(got, want) {
		t.Errorf("Limited(%s) = %s, want %s", brief(body), brief(got), brief(want))
	}
}

// bodyOf reads a body's source.
func bodyOf(t *testing.T, source string) []api.Literal {
	t.Helper()
	r, fault := parse.Rule("p :- " + source + ".")
	if (fault != api.Fault{}) {
		t.Fatalf("%s: %v", source, fault)
	}
	return r.Body
}

// P7.2: sources, each with the variables in the order in which they are found.
func TestLimited(t *testing.T) {
	for _, c := range []struct {
		source string
		want   []string
	}{
		{"q(X, _), Z = Y + 1, Y = X", []string{"X", "Y", "Z"}},
		{"Z = 5, not r(W), Y = Z * 2, q(X)", []string{"X", "Z", "Y"}},
		{"X = Y, Y = X", nil},
		{"q(X), X + 1 = Y, Y + 0 = Z + 0", []string{"X", "Y"}},
		{"q", nil},
		{"q(_), r(1, a)", nil},
		{"not q(X), not r(X, Y)", nil},
		{"q(Y, X, Y, Z, X), r(Z, W, Y)", []string{"Y", "X", "Z", "W"}},
		{"A = 1, q(C, B), not r(D), q(B, E)", []string{"C", "B", "E", "A"}},
		{"X = 1", []string{"X"}},
		{"1 = X", []string{"X"}},
		{"X = a, X = 2", []string{"X"}},
		{"1 = 1", nil},
		{"X = X", nil},
		{"X = X + 1", nil},
		{"X = Y", nil},
		{"X = Y, Y = 1", []string{"Y", "X"}},
		{"Y = 1, X = Y", []string{"Y", "X"}},
		{"Y = 1, Y = X", []string{"Y", "X"}},
		{"q(Y), X = Y", []string{"Y", "X"}},
		{"q(Y), Y = X", []string{"Y", "X"}},
		{"q(X, Y), X = Y", []string{"X", "Y"}},
		{"q(X), Y = X, X = Z, Z = Y", []string{"X", "Y", "Z"}},
		{"q(X), -Y = X", []string{"X"}},
		{"q(X), Y + 0 = X", []string{"X"}},
		{"q(X), X = Y + 0", []string{"X"}},
		{"q(X), Y + X = X", []string{"X"}},
		{"q(X), Y = X + Z", []string{"X"}},
		{"q(X), Y = Z + X", []string{"X"}},
		{"q(X), X + Z = Y, Z = 1", []string{"X", "Z", "Y"}},
		{"Y = len(X), X = back(W), W = Z & Z, Z = \"s\"", []string{"Z", "W", "X", "Y"}},
		{"q(X), Y < X, Z <= X, W > X, V >= X, U != X", []string{"X"}},
		{"q(X), X != Y", []string{"X"}},
		{"C = B, A = 1, B = A, D = C", []string{"A", "B", "C", "D"}},
		{"D = C, C = B, B = A, A = 1, E = D", []string{"A", "B", "C", "D", "E"}},
		{"E = D, D = C, C = B, B = A, A = 1", []string{"A", "B", "C", "D", "E"}},
		{"D = C, E = 1, C = B, F = E, B = A, G = B, A = 1", []string{"E", "F", "A", "B", "G", "C", "D"}},
		{"X = Y + Z, q(Z), Y = 3, W = X", []string{"Z", "Y", "X", "W"}},
		{"Y = X, Z = Y, q(X), X = W", []string{"X", "Y", "Z", "W"}},
	} {
		wantLimited(t, bodyOf(t, c.source), c.want...)
	}
	wantLimited(t, nil)
	wantLimited(t, []api.Literal{})
}

// P7.1: a literal of another kind than LPos and LCmp says nothing, whatever stands in it, nor does a comparison by another rel than RelEq, nor the fields that its kind does not use.
func TestLimitedByKinds(t *testing.T) {
	for code := -128; code < 128; code++ {
		l := api.Literal{Kind: api.LitKind(code), Atom: atom("q", v("X"), v("Y")), Rel: api.RelEq, Left: ex(v("Z")), Right: ex(n(1))}
		switch l.Kind {
		case api.LPos:
			wantLimited(t, []api.Literal{l}, "X", "Y")
		case api.LCmp:
			wantLimited(t, []api.Literal{l}, "Z")
		default:
			wantLimited(t, []api.Literal{l})
		}
		l.Kind, l.Rel = api.LCmp, api.Rel(code)
		if l.Rel == api.RelEq {
			wantLimited(t, []api.Literal{l}, "Z")
		} else {
			wantLimited(t, []api.Literal{l})
		}
	}
}

// P7.1, P7.2: structs that are no atoms and no expressions as they may be.
func TestLimitedOfAnything(t *testing.T) {
	odd := api.Term{Var: "x y", Val: num(1)}
	wantLimited(t, []api.Literal{pos("", odd, api.Term{}, v("_"), v("not"), odd)}, "x y", "not")
	wantLimited(t, []api.Literal{eq(ex(odd), api.Expr{})}, "x y")
	wantLimited(t, []api.Literal{eq(api.Expr{}, ex(odd))}, "x y")
	wantLimited(t, []api.Literal{eq(ex(v("_")), ex(n(1))), eq(api.Expr{}, api.Expr{})})
	wantLimited(t, []api.Literal{eq(ex(v("X")), ex(v("_")))}, "X")
	wantLimited(t, []api.Literal{eq(ex(v("X")), api.Expr{Op: 77})}, "X")
	wantLimited(t, []api.Literal{eq(api.Expr{Op: -1, Term: v("X")}, ex(n(1)))})
	wantLimited(t, []api.Literal{eq(api.Expr{Term: v("X"), Kids: []api.Expr{{}}}, ex(n(1)))})
	wantLimited(t, []api.Literal{eq(api.Expr{Term: v("X"), Kids: []api.Expr{ex(v("X"))}}, ex(n(1)))})
	wantLimited(t, []api.Literal{eq(api.Expr{Kids: []api.Expr{ex(v("X"))}}, ex(n(1)))})
	wantLimited(t, []api.Literal{eq(api.Expr{Op: api.OpNeg, Kids: []api.Expr{ex(v("X"))}}, ex(n(1)))})
	wantLimited(t, []api.Literal{eq(ex(v("X")), api.Expr{Op: api.OpAdd, Term: v("Y"), Kids: []api.Expr{ex(v("Z"))}}), pos("q", v("Z"))}, "Z")
	wantLimited(t, []api.Literal{eq(ex(v("X")), api.Expr{Op: api.OpAdd, Term: v("Y"), Kids: []api.Expr{ex(v("Z"))}}), pos("q", v("Z"), v("Y"))}, "Z", "Y", "X")
	deep := ex(v("Y"))
	for range 50000 {
		deep = op(api.OpNeg, deep)
	}
	wantLimited(t, []api.Literal{eq(ex(v("X")), deep), eq(deep, deep), pos("q", v("Y"))}, "Y", "X")
}

// chain is equations of which each gives a variable by the one ahead of it; the first one is given by itself.
func chain(length int) (body []api.Literal, names []string) {
	for i := range length {
		names = append(names, "V"+strconv.Itoa(i))
		body = append(body, eq(ex(v(names[i])), op(api.OpAdd, ex(n(1)), ex(v("V"+strconv.Itoa(i-1))))))
		if i == 0 {
			body[0].Right = ex(n(1))
		}
		if i%3 == 1 {
			body[i].Left, body[i].Right = body[i].Right, body[i].Left
		}
	}
	return body, names
}

// P7.2: equations that wait for one another, one behind the other and the other way round: one way through the body does, or as many as there are equations.
func TestLimitedOverManyWays(t *testing.T) {
	for _, length := range []int{1, 2, 3, 16, 100, 3000} {
		body, names := chain(length)
		wantLimited(t, body, names...)
		slices.Reverse(body)
		wantLimited(t, body, names...)
		wantLimited(t, append(body[:length-1:length-1], pos("q", v("Y"))), "Y")
		wantLimited(t, append(body[:length-1:length-1], pos("q", v("V0"))), names...)
	}
	body, names := chain(100000)
	wantLimited(t, body, names...)
}

// P7.2: every second equation waits for the next way: what is found counts at once for those behind it, and only on the next way for those ahead.
func TestLimitedFindsAtOnce(t *testing.T) {
	body, names := chain(8)
	order := []int{1, 3, 5, 7, 0, 2, 4, 6}
	var turned []api.Literal
	for _, i := range order {
		turned = append(turned, body[i])
	}
	wantLimited(t, turned, names...)
	// V0 is found on the first way, and X behind it, ahead of V1, which stands in front.
	wantLimited(t, append(turned, eq(ex(v("X")), ex(v("V0")))), "V0", "X", "V1", "V2", "V3", "V4", "V5", "V6", "V7")
	wantLimited(t, append(turned, eq(ex(v("X")), ex(v("V2")))), "V0", "V1", "V2", "X", "V3", "V4", "V5", "V6", "V7")
}

// P7.2: a body of many literals and atoms of many terms.
func TestLimitedOfGreatBodies(t *testing.T) {
	var names []string
	for _, x := range many(30000) {
		names = append(names, x.Var)
	}
	wantLimited(t, []api.Literal{pos("q", many(30000)...), pos("q", many(30000)...)}, names...)
	var body []api.Literal
	for _, x := range many(30000) {
		body = append(body, pos("q", x, v("V0")), not("q", v("X")), cmp(ex(v("Y")), api.RelLt, ex(x)))
	}
	wantLimited(t, body, names...)
}
