package store

import (
	"pedigree/api"
	"pedigree/change"
	"pedigree/model"
)

// answers are a query's over facts in order that are not refused.
func (d *DB) answers(q api.Atom, l []api.Fact) ([][]api.Value, api.Refusal) {
	if r := d.program.refusal(q, l); r != (api.Refusal{}) {
		return nil, r
	}
	return model.Answers(q, d.modelOver(l)), api.Refusal{}
}

// modelOver turns the one model that is kept to the facts that are asked about: what two transactions see differs by little.
func (d *DB) modelOver(l []api.Fact) []api.Fact {
	if d.kept == nil {
		d.kept, _ = change.New(d.program.rules, l)
		return d.kept.Facts()
	}
	base := d.kept.Base()
	come, gone := without(l, base), without(base, l)
	if len(come)+len(gone) > 0 {
		d.kept.Turn(come, gone)
	}
	return d.kept.Facts()
}

// commit turns the facts now. (P28.8)
func (d *DB) commit(t turns) (int, api.Errno) {
	in, out := t.sides()
	added, removed := without(in, d.now), without(out, without(out, d.now))
	now := with(without(d.now, removed), added)
	if len(now) > api.MaxFacts {
		return 0, api.ErrSize
	}
	c := api.Commit{Seq: len(d.commits) + 1, Added: added, Removed: removed}
	d.commits, d.now = append(d.commits, c), now
	return c.Seq, api.OK
}
