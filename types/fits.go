package types

import (
	"pedigree/api"
	"pedigree/term"
)

// room says which kinds of values may stand in a column.
type room struct{ num, text bool }

func (r room) takes(v api.Value) bool {
	if v.Kind == api.KNum {
		return r.num
	}
	return r.text
}

// narrow leaves what may stand there of a type too.
func (r *room) narrow(t api.Type) {
	r.num = r.num && (t == api.TyAny || t == api.TyNum)
	r.text = r.text && (t == api.TyAny || t == api.TyText)
}

// demand is what all Sigs of one name ask of a fact.
type demand struct {
	cols  []room
	never bool // two of them have unlike lengths
}

func newDemand(columns int) *demand {
	d := &demand{cols: make([]room, columns)}
	for i := range d.cols {
		d.cols[i] = room{true, true}
	}
	return d
}

func (d *demand) narrow(cols []api.Type) {
	if len(cols) != len(d.cols) {
		d.never = true
		return
	}
	for i, t := range cols {
		d.cols[i].narrow(t)
	}
}

func (d *demand) takes(l []api.Value) bool {
	if d.never || len(l) != len(d.cols) {
		return false
	}
	for i, v := range l {
		if !d.cols[i].takes(v) {
			return false
		}
	}
	return true
}

// demands puts the Sigs of a name together, so that a fact is held against them once, however many there are.
func demands(s []api.Sig) map[string]*demand {
	out := map[string]*demand{}
	for _, x := range s {
		d := out[x.Pred]
		if d == nil {
			d = newDemand(len(x.Cols))
			out[x.Pred] = d
		}
		d.narrow(x.Cols)
	}
	return out
}

// Fits: do all facts fit the columns' types? (P8.4)
func Fits(l []api.Fact, s []api.Sig) bool {
	asked := demands(s)
	for _, f := range l {
		if !areValues(f.Args) {
			return false
		}
		if d := asked[f.Pred]; d != nil && !d.takes(f.Args) {
			return false
		}
	}
	return true
}

func areValues(l []api.Value) bool {
	for _, v := range l {
		if term.CheckTerm(api.Term{Val: v}) != api.OK {
			return false
		}
	}
	return true
}
