package depend_test

import (
	"fmt"
	"reflect"
	"slices"
	"strconv"
	"strings"
	"testing"

	"pedigree/api"
	"pedigree/depend"
	"pedigree/parse"
)

func v(name string) api.Term { return api.Term{Var: name} }

func n(k int64) api.Term { return api.Term{Val: api.Value{Kind: api.KNum, Num: k}} }

func atom(pred string, l ...api.Term) api.Atom { return api.Atom{Pred: pred, Args: l} }

func pos(pred string, l ...api.Term) api.Literal {
	return api.Literal{Kind: api.LPos, Atom: atom(pred, l...)}
}

func not(pred string, l ...api.Term) api.Literal {
	return api.Literal{Kind: api.LNot, Atom: atom(pred, l...)}
}

func eq(left, right api.Expr) api.Literal {
	return api.Literal{Kind: api.LCmp, Rel: api.RelEq, Left: left, Right: right}
}

func ex(t api.Term) api.Expr { return api.Expr{Term: t} }

func op(o api.Op, kids ...api.Expr) api.Expr { return api.Expr{Op: o, Kids: kids} }

func head(l ...api.Term) []api.Arg {
	var out []api.Arg
	for _, t := range l {
		out = append(out, api.Arg{Term: t})
	}
	return out
}

func rule(pred string, args []api.Arg, body ...api.Literal) api.Rule {
	return api.Rule{Pred: pred, Head: args, Body: body}
}

func program(l ...api.Rule) api.Program { return api.Program{Rules: l} }

// programOf reads a program's source.
func programOf(t *testing.T, source string) api.Program {
	t.Helper()
	p, fault := parse.Program(source)
	if (fault != api.Fault{}) {
		t.Fatalf("%s: %v", source, fault)
	}
	return p
}

// brief cuts off what is too long for a remark.
func brief(x any) string {
	const most = 600
	out := fmt.Sprintf("%+v", x)
	if len(out) > most {
		return out[:most] + " .."
	}
	return out
}

// told writes a thing out; an empty list and nil are the same.
func told(x any) string {
	var out strings.Builder
	tell(&out, reflect.ValueOf(x))
	return out.String()
}

func tell(out *strings.Builder, x reflect.Value) {
	switch x.Kind() {
	case reflect.Struct:
		for i := range x.NumField() {
			tell(out, x.Field(i))
			out.WriteString(";")
		}
	case reflect.Slice:
		out.WriteString("[")
		for i := range x.Len() {
			tell(out, x.Index(i))
			out.WriteString(",")
		}
		out.WriteString("]")
	case reflect.String:
		out.WriteString(strconv.Quote(x.String()))
	default:
		out.WriteString(strconv.FormatInt(x.Int(), 10))
	}
}

func kindWord(k api.EdgeKind) string {
	switch k {
	case api.EdgePlain:
		return "plain"
	case api.EdgeNot:
		return "not"
	case api.EdgeAgg:
		return "agg"
	case api.EdgeMake:
		return "make"
	}
	return strconv.Itoa(int(k))
}

// showEdges writes edges as the tests do: anc to par plain 0, ..
func showEdges(l []api.Edge) string {
	var out []string
	for _, e := range l {
		out = append(out, e.From+" to "+e.To+" "+kindWord(e.Kind)+" "+strconv.Itoa(e.Rule))
	}
	return strings.Join(out, ", ")
}

// showParts writes the names of each part with blanks between them, and parts with | between them.
func showParts(l [][]string) string {
	var out []string
	for _, names := range l {
		out = append(out, strings.Join(names, " "))
	}
	return strings.Join(out, " | ")
}

func showLevels(l []api.Level) string {
	var out []string
	for _, x := range l {
		out = append(out, x.Pred+" "+strconv.Itoa(int(x.N)))
	}
	return strings.Join(out, ", ")
}

func wantEdges(t *testing.T, p api.Program, want string) {
	t.Helper()
	if got := showEdges(depend.Edges(p)); got != want {
		t.Errorf("Edges(%s) = %s; want %s", brief(p), brief(got), brief(want))
	}
}

func wantParts(t *testing.T, p api.Program, want string) {
	t.Helper()
	if got := showParts(depend.Parts(p)); got != want {
		t.Errorf("Parts(%s) = %s; want %s", brief(p), brief(got), brief(want))
	}
}

func wantLevels(t *testing.T, p api.Program, want string) {
	t.Helper()
	got, at, err := depend.Levels(p)
	if showLevels(got) != want || at != 0 || err != api.OK {
		t.Errorf("Levels(%s) = %s, %d, %d; want %s", brief(p), brief(showLevels(got)), at, err, brief(want))
	}
}

func refuseLevels(t *testing.T, p api.Program, at int, code api.Errno) {
	t.Helper()
	got, gotAt, err := depend.Levels(p)
	if len(got) != 0 || gotAt != at || err != code {
		t.Errorf("Levels(%s) = %s, %d, %d; want %d, %d", brief(p), brief(showLevels(got)), gotAt, err, at, code)
	}
}

func wantReach(t *testing.T, p api.Program, pred string, want ...string) {
	t.Helper()
	if got := depend.Reach(p, pred); !slices.Equal(got, want) {
		t.Errorf("Reach(%s, %q) = %q; want %q", brief(p), pred, brief(got), brief(want))
	}
}

// wantSplit takes the numbers of the rules that are ahead, rising.
func wantSplit(t *testing.T, p api.Program, numbers ...int) {
	t.Helper()
	var ahead, plain []api.Rule
	for i, r := range p.Rules {
		if slices.Contains(numbers, i) {
			ahead = append(ahead, r)
		} else {
			plain = append(plain, r)
		}
	}
	one, two := depend.Split(p)
	if told(one.Rules) != told(ahead) || told(two.Rules) != told(plain) {
		t.Errorf("Split(%s) = %s, %s; want the rules %v first", brief(p), brief(one), brief(two), numbers)
	}
}

func wantFlat(t *testing.T, l []api.Rule, one, plain bool) {
	t.Helper()
	if got := depend.OneLevel(l); got != one {
		t.Errorf("OneLevel(%s) = %v", brief(l), got)
	}
	if got := depend.Plain(l); got != plain {
		t.Errorf("Plain(%s) = %v", brief(l), got)
	}
}
