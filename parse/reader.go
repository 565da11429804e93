package parse

import "pedigree/api"

// reader goes through tokens; the end, which is the last one, is never passed.
type reader struct {
	tokens []api.Token
	at     int
}

// next is the token that is to be read.
func (r *reader) next() api.Token { return r.tokens[r.at] }

// misfit says that the next token is wrong there.
func (r *reader) misfit(wrong error) misfit { return misfit{wrong, r.next().At} }

// take passes the sign or the keyword s, if it is the next token. (A text between quotes may be of the same bytes.)
func (r *reader) take(s string) bool {
	t := r.next()
	if t.Text != s || t.Kind != api.TokSign && t.Kind != api.TokWord {
		return false
	}
	r.at++
	return true
}

func (r *reader) must(s string) {
	if !r.take(s) {
		panic(r.misfit(errSyntax))
	}
}

// text passes a token of the kind and answers its Text.
func (r *reader) text(kind api.TokenKind) string {
	t := r.next()
	if t.Kind != kind {
		panic(r.misfit(errSyntax))
	}
	r.at++
	return t.Text
}

func (r *reader) atEnd() bool { return r.next().Kind == api.TokEnd }

func (r *reader) mustEnd() {
	if !r.atEnd() {
		panic(r.misfit(errSyntax))
	}
}

// all reads one thing behind the other, up to the end.
func all[T any](r *reader, one func() T) []T {
	var out []T
	for !r.atEnd() {
		out = append(out, one())
	}
	return out
}

// list reads things with commas between them.
func list[T any](r *reader, one func() T) []T {
	out := []T{one()}
	for r.take(",") {
		out = append(out, one())
	}
	return out
}

// columns reads what may stand behind a name: nothing, or a list between brackets, which may be empty.
func columns[T any](r *reader, one func() T) []T {
	if !r.take("(") || r.take(")") {
		return nil
	}
	out := list(r, one)
	r.must(")")
	return out
}
