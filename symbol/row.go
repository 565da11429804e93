package symbol

import "pedigree/api"

// Row: a tuple as numbers, its values added. (P2.4)
func (t *Table) Row(l ...api.Value) (row api.Row, err api.Errno) {
	if !t.there() {
		return api.Row{}, api.ErrNil
	}
	if len(l) > api.MaxWide {
		return api.Row{}, api.ErrArg
	}
	had := len(t.values)
	defer func() {
		if err != api.OK {
			row = api.Row{}
			t.Cut(had)
		}
	}()
	err = fill(row[:], l, t.Add)
	return row, err
}

// Seek: a tuple as numbers, if all its values have one. (P2.5)
func (t *Table) Seek(l ...api.Value) (api.Row, bool) {
	if !t.there() || len(l) > api.MaxWide {
		return api.Row{}, false
	}
	var row api.Row
	for i, v := range l {
		s, ok := t.numbers[v]
		if !ok {
			return api.Row{}, false
		}
		row[i] = s
	}
	return row, true
}

// Tuple: the first n columns of a row as values. (P2.6)
func (t *Table) Tuple(r api.Row, n int) ([]api.Value, api.Errno) {
	if !t.there() {
		return nil, api.ErrNil
	}
	if n < 0 || n > api.MaxWide {
		return nil, api.ErrArg
	}
	out := make([]api.Value, n)
	if err := fill(out, r[:n], t.Value); err != api.OK {
		return nil, err
	}
	return out, api.OK
}

// fill puts what is answered to each element of from at its place in into, up to the first error. (into has room for all of them.)
func fill[A, B any](into []B, from []A, ask func(A) (B, api.Errno)) api.Errno {
	for i, a := range from {
		b, err := ask(a)
		if err != api.OK {
			return err
		}
		into[i] = b
	}
	return api.OK
}
