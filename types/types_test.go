package types_test

import (
	"fmt"
	"reflect"
	"strconv"
	"strings"
	"testing"

	"pedigree/api"
	"pedigree/parse"
	"pedigree/types"
)

func num(n int64) api.Value { return api.Value{Kind: api.KNum, Num: n} }

func text(s string) api.Value { return api.Value{Kind: api.KText, Text: s} }

func v(name string) api.Term { return api.Term{Var: name} }

func n(k int64) api.Term { return api.Term{Val: num(k)} }

func s(t string) api.Term { return api.Term{Val: text(t)} }

func atom(pred string, l ...api.Term) api.Atom { return api.Atom{Pred: pred, Args: l} }

func pos(pred string, l ...api.Term) api.Literal {
	return api.Literal{Kind: api.LPos, Atom: atom(pred, l...)}
}

func not(pred string, l ...api.Term) api.Literal {
	return api.Literal{Kind: api.LNot, Atom: atom(pred, l...)}
}

func cmp(left api.Expr, rel api.Rel, right api.Expr) api.Literal {
	return api.Literal{Kind: api.LCmp, Rel: rel, Left: left, Right: right}
}

func eq(left, right api.Expr) api.Literal { return cmp(left, api.RelEq, right) }

func ex(t api.Term) api.Expr { return api.Expr{Term: t} }

func op(o api.Op, kids ...api.Expr) api.Expr { return api.Expr{Op: o, Kids: kids} }

func head(l ...api.Term) []api.Arg {
	var out []api.Arg
	for _, t := range l {
		out = append(out, api.Arg{Term: t})
	}
	return out
}

func rule(pred string, args []api.Arg, body ...api.Literal) api.Rule {
	return api.Rule{Pred: pred, Head: args, Body: body}
}

func program(l ...api.Rule) api.Program { return api.Program{Rules: l} }

func fact(pred string, l ...api.Value) api.Fact { return api.Fact{Pred: pred, Args: l} }

// typesOf reads n, t and ?; a digit is a Type that is none.
func typesOf(letters string) []api.Type {
	var out []api.Type
	for _, c := range []byte(letters) {
		at := strings.IndexByte("?nt", c)
		if at < 0 {
			at = int(c - '0')
		}
		out = append(out, api.Type(at))
	}
	return out
}

// sigsOf reads what the chapter writes: e(n?) p().
func sigsOf(source string) []api.Sig {
	var out []api.Sig
	for _, word := range strings.Fields(source) {
		name, cols, _ := strings.Cut(strings.TrimSuffix(word, ")"), "(")
		out = append(out, api.Sig{Pred: name, Cols: typesOf(cols)})
	}
	return out
}

func lettersOf(l []api.Type) string {
	var out strings.Builder
	for _, t := range l {
		if t < 0 || t > 2 {
			out.WriteString("<" + strconv.Itoa(int(t)) + ">")
		} else {
			out.WriteByte("?nt"[t])
		}
	}
	return out.String()
}

func showSigs(l []api.Sig) string {
	var out []string
	for _, x := range l {
		out = append(out, x.Pred+"("+lettersOf(x.Cols)+")")
	}
	return strings.Join(out, " ")
}

// many are so many unlike variables.
func many(count int) []api.Term {
	var out []api.Term
	for i := range count {
		out = append(out, v("V"+strconv.Itoa(i)))
	}
	return out
}

// rulesOf reads a program's source.
func rulesOf(t *testing.T, source string) []api.Rule {
	t.Helper()
	p, fault := parse.Program(source)
	if (fault != api.Fault{}) {
		t.Fatalf("%s: %v", source, fault)
	}
	return p.Rules
}

func ruleOf(t *testing.T, source string) api.Rule {
	t.Helper()
	r, fault := parse.Rule(source)
	if (fault != api.Fault{}) {
		t.Fatalf("%s: %v", source, fault)
	}
	return r
}

func factsOf(t *testing.T, source string) []api.Fact {
	t.Helper()
	l, fault := parse.Facts(source)
	if (fault != api.Fault{}) {
		t.Fatalf("%s: %v", source, fault)
	}
	return l
}

// brief cuts off what is too long for a remark.
func brief(x any) string {
	const most = 600
	out := fmt.Sprintf("%+v", x)
	if len(out) > most {
		return out[:most] + " .."
	}
	return out
}

// told writes a thing out; an empty list and nil are the same.
func told(x any) string {
	var out strings.Builder
	tell(&out, reflect.ValueOf(x))
	return out.String()
}

func tell(out *strings.Builder, x reflect.Value) {
	switch x.Kind() {
	case reflect.Struct:
		for i := range x.NumField() {
			tell(out, x.Field(i))
			out.WriteString(";")
		}
	case reflect.Slice:
		out.WriteString("[")
		for i := range x.Len() {
			tell(out, x.Index(i))
			out.WriteString(",")
		}
		out.WriteString("]")
	case reflect.String:
		out.WriteString(strconv.Quote(x.String()))
	default:
		out.WriteString(strconv.FormatInt(x.Int(), 10))
	}
}

func wantInfer(t *testing.T, l []api.Rule, want string) {
	t.Helper()
	got, at, err := types.Infer(program(l...))
	if told(got) != told(sigsOf(want)) || at != 0 || err != api.OK {
		t.Errorf("Infer(%s) = %s, %d, %d; want %s", brief(l), brief(showSigs(got)), at, err, brief(want))
	}
}

func refuseInfer(t *testing.T, l []api.Rule, at int, code api.Errno) {
	t.Helper()
	got, gotAt, err := types.Infer(program(l...))
	if len(got) != 0 || gotAt != at || err != code {
		t.Errorf("Infer(%s) = %s, %d, %d; want %d, %d", brief(l), brief(showSigs(got)), gotAt, err, at, code)
	}
}

func wantVars(t *testing.T, r api.Rule, l []api.Sig, want string) {
	t.Helper()
	got, err := types.Vars(r, l)
	if lettersOf(got) != want || err != api.OK {
		t.Errorf("Vars(%s, %s) = %s, %d; want %s", brief(r), brief(showSigs(l)), lettersOf(got), err, want)
	}
}

func refuseVars(t *testing.T, r api.Rule, l []api.Sig, code api.Errno) {
	t.Helper()
	got, err := types.Vars(r, l)
	if len(got) != 0 || err != code {
		t.Errorf("Vars(%s, %s) = %s, %d; want %d", brief(r), brief(showSigs(l)), lettersOf(got), err, code)
	}
}

func wantFits(t *testing.T, l []api.Fact, sigs []api.Sig, want bool) {
	t.Helper()
	if got := types.Fits(l, sigs); got != want {
		t.Errorf("Fits(%s, %s) = %v", brief(l), brief(showSigs(sigs)), got)
	}
}
