package print

import (
	"strings"

	"pedigree/api"
	"pedigree/lex"
	"pedigree/value"
)

// The words of the aggregates and the signs of the relations stand at their numbers.
var (
	aggregates = [...]string{api.AggCount: "count", api.AggSum: "sum", api.AggMin: "min", api.AggMax: "max"}
	relations  = [...]string{api.RelEq: "=", api.RelNe: "!=", api.RelLt: "<", api.RelLe: "<=", api.RelGt: ">", api.RelGe: ">="}
)

// writer puts a text together. Its methods write things that are as they may be, and nothing else is handed to them.
type writer struct {
	text strings.Builder
}

func (w *writer) put(pieces ...string) {
	for _, piece := range pieces {
		w.text.WriteString(piece)
	}
}

// list writes things with a comma and a blank between each two.
func list[T any](w *writer, l []T, write func(*writer, T)) {
	for i, thing := range l {
		if i > 0 {
			w.put(", ")
		}
		write(w, thing)
	}
}

// columns writes what stands behind a predicate's name. Without columns no brackets stand.
func columns[T any](w *writer, l []T, write func(*writer, T)) {
	if len(l) == 0 {
		return
	}
	w.put("(")
	list(w, l, write)
	w.put(")")
}

func (w *writer) term(t api.Term) {
	if t.Var != "" { // a blank's Var is its text too
		w.put(t.Var)
		return
	}
	w.value(t.Val)
}

func (w *writer) value(v api.Value) {
	shown, _ := value.Show(v)
	w.put(shown)
}

func (w *writer) atom(a api.Atom) {
	w.put(a.Pred)
	columns(w, a.Args, (*writer).term)
}

func (w *writer) query(a api.Atom) {
	w.atom(a)
	w.put("?")
}

// literal looks the method up by the literal's kind.
func (w *writer) literal(l api.Literal) {
	ways := [...]struct {
		kind  api.LitKind
		write func(*writer, api.Literal)
	}{
		{api.LPos, (*writer).claim},
		{api.LNot, (*writer).denial},
		{api.LCmp, (*writer).comparison},
	}
	for _, way := range ways {
		if way.kind == l.Kind {
			way.write(w, l)
		}
	}
}

func (w *writer) claim(l api.Literal) { w.atom(l.Atom) }

func (w *writer) denial(l api.Literal) {
	w.put("not ")
	w.atom(l.Atom)
}

func (w *writer) comparison(l api.Literal) {
	w.expr(l.Left)
	w.put(" ", relations[l.Rel], " ")
	w.expr(l.Right)
}

func (w *writer) rule(r api.Rule) {
	w.put(r.Pred)
	columns(w, r.Head, (*writer).arg)
	if len(r.Body) > 0 {
		w.put(" :- ")
		list(w, r.Body, (*writer).literal)
	}
	w.put(".")
}

func (w *writer) arg(a api.Arg) {
	if a.Agg == api.AggNone {
		w.term(a.Term)
		return
	}
	w.put(aggregates[a.Agg], "(", a.Term.Var, ")") // a count has no variable: its Var is empty
}

func (w *writer) fact(f api.Fact) {
	w.put(f.Pred)
	columns(w, f.Args, (*writer).value)
	w.put(".")
}

func checkFact(f api.Fact) api.Errno {
	if !lex.Name(f.Pred) || len(f.Args) > api.MaxWide {
		return api.ErrValue
	}
	for _, v := range f.Args {
		if err := value.Check(v); err != api.OK {
			return err
		}
	}
	return api.OK
}
