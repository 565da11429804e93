package store

import (
	"pedigree/api"
	"pedigree/depend"
)

// Tx is a transaction.
type Tx struct {
	db      *DB
	open    bool
	began   int        // how many commits there were
	facts   []api.Fact // the facts now, at its Begin
	touched turns
	noted   map[string]struct{} // the predicates' names
	crowds  map[string]crowd    // of the predicates that an Add or a Remove has named
}

// there: only Begin gives a transaction its database, so a zero struct has none.
func (t *Tx) there() bool { return t != nil && t.db != nil }

// Ask: a query's answers over what the transaction sees. (P28.6)
func (t *Tx) Ask(q api.Atom) ([][]api.Value, api.Refusal) {
	if !t.there() {
		return nil, api.Refusal{Code: api.ErrNil}
	}
	t.db.mu.Lock()
	defer t.db.mu.Unlock()
	if !t.open {
		return nil, api.Refusal{Code: api.ErrDone}
	}
	for _, name := range depend.Reach(t.db.program.rules, q.Pred) {
		t.noted[name] = struct{}{}
	}
	return t.db.answers(q, t.touched.over(t.facts))
}

// Add: a fact comes. (P28.7)
func (t *Tx) Add(f api.Fact) api.Errno { return t.touch(f, true) }

// Remove: a fact goes. (P28.7)
func (t *Tx) Remove(f api.Fact) api.Errno { return t.touch(f, false) }

func (t *Tx) touch(f api.Fact, in bool) api.Errno {
	if !t.there() {
		return api.ErrNil
	}
	t.db.mu.Lock()
	defer t.db.mu.Unlock()
	if !t.open {
		return api.ErrDone
	}
	if !t.db.program.has(f.Pred) {
		t.noted[f.Pred] = struct{}{}
	}
	if err := t.db.program.refuses(f); err != api.OK {
		return err
	}
	was := t.crowd(f.Pred)
	if was.n > 0 && was.columns != len(f.Args) {
		return api.ErrArity
	}
	t.crowds[f.Pred] = was.behind(f, t.sees(f), in)
	t.touched.put(f, in)
	return api.OK
}

// Commit: all of it happens, or nothing. (P28.8)
func (t *Tx) Commit() (int, api.Errno) {
	if !t.there() {
		return 0, api.ErrNil
	}
	t.db.mu.Lock()
	defer t.db.mu.Unlock()
	if !t.open {
		return 0, api.ErrDone
	}
	defer t.end()
	if t.outrun() {
		return 0, api.ErrConflict
	}
	return t.db.commit(t.touched)
}

// Drop: nothing of it happens. (P28.9)
func (t *Tx) Drop() api.Errno {
	if !t.there() {
		return api.ErrNil
	}
	t.db.mu.Lock()
	defer t.db.mu.Unlock()
	if !t.open {
		return api.ErrDone
	}
	t.end()
	return api.OK
}

// end leaves nothing in the transaction but that it is over.
func (t *Tx) end() {
	t.open, t.facts = false, nil
	clear(t.touched)
	clear(t.noted)
	clear(t.crowds)
}

// outrun: did a commit behind the Begin turn what was noted?
func (t *Tx) outrun() bool {
	for _, c := range t.db.commits[t.began:] {
		for name := range t.noted {
			if len(ofName(c.Added, name))+len(ofName(c.Removed, name)) > 0 {
				return true
			}
		}
	}
	return false
}

func (t *Tx) sees(f api.Fact) bool {
	if last, touched := t.touched[textOf(f)]; touched {
		return last.in
	}
	return stands(t.facts, f)
}
