package store_test

import (
	"slices"
	"strings"

	"pedigree/api"
	"pedigree/depend"
	"pedigree/model"
	"pedigree/term"
	"pedigree/types"
	"pedigree/value"
)

// What stands here is written along the chapter, word by word.

// slowDB keeps the first facts and the commits, and works out everything else.
type slowDB struct {
	p       api.Program
	first   []api.Fact
	commits []api.Commit
}

type touch struct {
	f  api.Fact
	in bool
}

type slowTx struct {
	d     *slowDB
	open  bool
	began int
	done  []touch
	noted []string
}

// columns answers with how many columns the program has a predicate.
func (d *slowDB) columns(pred string) (int, bool) {
	for _, r := range d.p.Rules {
		if r.Pred == pred {
			return len(r.Head), true
		}
		for _, l := range r.Body {
			if (l.Kind == api.LPos || l.Kind == api.LNot) && l.Atom.Pred == pred {
				return len(l.Atom.Args), true
			}
		}
	}
	return 0, false
}

func isOne(f api.Fact) func(api.Fact) bool {
	return func(g api.Fact) bool { return value.CompareFacts(f, g) == 0 }
}

// turned is a list with one fact touched.
func turned(l []api.Fact, x touch) []api.Fact {
	out := slices.DeleteFunc(slices.Clone(l), isOne(x.f))
	if x.in {
		out = append(out, x.f)
	}
	return out
}

// at is what stands behind a commit. (Words)
func (d *slowDB) at(seq int) []api.Fact {
	l := d.first
	for _, c := range d.commits[:seq] {
		for _, f := range c.Added {
			l = turned(l, touch{f, true})
		}
		for _, f := range c.Removed {
			l = turned(l, touch{f, false})
		}
	}
	return value.Facts(l)
}

func (d *slowDB) now() []api.Fact { return d.at(len(d.commits)) }

// refusal is P28.1.
func (d *slowDB) refusal(q api.Atom, l []api.Fact) api.Refusal {
	long := func(x api.Term) bool { return len(x.Var) > api.MaxName }
	columns, has := d.columns(q.Pred)
	other := func(f api.Fact) bool { return f.Pred == q.Pred && len(f.Args) != len(q.Args) }
	switch {
	case term.CheckAtom(q) != api.OK:
		return ofQuery(api.ErrTerm)
	case len(q.Pred) > api.MaxName || len(q.Args) > api.MaxArity || slices.ContainsFunc(q.Args, long):
		return ofQuery(api.ErrSize)
	case strings.HasPrefix(q.Pred, "q_"):
		return ofQuery(api.ErrReserved)
	case has && columns != len(q.Args) || slices.ContainsFunc(l, other):
		return ofQuery(api.ErrArity)
	}
	return fine()
}

// ask is P28.4.
func (d *slowDB) ask(q api.Atom, l []api.Fact) ([][]api.Value, api.Refusal) {
	if r := d.refusal(q, l); r != fine() {
		return nil, r
	}
	m, _ := model.Model(d.p, l)
	return model.Answers(q, m), fine()
}

func (d *slowDB) begin() *slowTx { return &slowTx{d: d, open: true, began: len(d.commits)} }

// sees is what the transaction sees. (Words)
func (x *slowTx) sees() []api.Fact {
	l := x.d.at(x.began)
	for _, y := range x.done {
		l = turned(l, y)
	}
	return value.Facts(l)
}

// ask is P28.6.
func (x *slowTx) ask(q api.Atom) ([][]api.Value, api.Refusal) {
	if !x.open {
		return nil, api.Refusal{Code: api.ErrDone}
	}
	x.noted = append(x.noted, depend.Reach(x.d.p, q.Pred)...)
	return x.d.ask(q, x.sees())
}

// touch is P28.7.
func (x *slowTx) touch(f api.Fact, in bool) api.Errno {
	if !x.open {
		return api.ErrDone
	}
	if _, has := x.d.columns(f.Pred); !has {
		x.noted = append(x.noted, f.Pred)
	}
	if err := x.wrong(f); err != api.OK {
		return err
	}
	x.done = append(x.done, touch{f, in})
	return api.OK
}

func (x *slowTx) wrong(f api.Fact) api.Errno {
	as := api.Atom{Pred: f.Pred}
	for _, y := range f.Args {
		as.Args = append(as.Args, api.Term{Val: y})
	}
	columns, has := x.d.columns(f.Pred)
	other := func(g api.Fact) bool { return g.Pred == f.Pred && len(g.Args) != len(f.Args) }
	sigs, _, _ := types.Infer(x.d.p)
	switch {
	case term.CheckAtom(as) != api.OK:
		return api.ErrValue
	case len(f.Pred) > api.MaxName || len(f.Args) > api.MaxArity:
		return api.ErrSize
	case strings.HasPrefix(f.Pred, "q_"):
		return api.ErrReserved
	case has && columns != len(f.Args) || !has && slices.ContainsFunc(x.sees(), other):
		return api.ErrArity
	case !types.Fits([]api.Fact{f}, sigs):
		return api.ErrType
	}
	return api.OK
}

// commit is P28.8.
func (x *slowTx) commit() (int, api.Errno) {
	if !x.open {
		return 0, api.ErrDone
	}
	x.open = false
	noted := func(f api.Fact) bool { return slices.Contains(x.noted, f.Pred) }
	for _, c := range x.d.commits[x.began:] {
		if slices.ContainsFunc(c.Added, noted) || slices.ContainsFunc(c.Removed, noted) {
			return 0, api.ErrConflict
		}
	}
	was := x.d.now()
	now := was
	for _, y := range x.done {
		now = turned(now, y)
	}
	if len(now) > api.MaxFacts {
		return 0, api.ErrSize
	}
	c := api.Commit{Seq: len(x.d.commits) + 1, Added: lacking(now, was), Removed: lacking(was, now)}
	x.d.commits = append(x.d.commits, c)
	return c.Seq, api.OK
}

// lacking are the facts of the first list that the second one lacks, in order.
func lacking(l, others []api.Fact) []api.Fact {
	return value.Facts(slices.DeleteFunc(slices.Clone(l), func(f api.Fact) bool { return slices.ContainsFunc(others, isOne(f)) }))
}

// drop is P28.9.
func (x *slowTx) drop() api.Errno {
	if !x.open {
		return api.ErrDone
	}
	x.open = false
	return api.OK
}
