package change

import (
	"maps"
	"slices"

	"pedigree/api"
)

// trial is what is doubted on one level, by the facts' own texts.
type trial struct {
	doubted map[string]api.Fact
	left    map[string]api.Fact // to be gone through: nothing has put it back so far
}

func newTrial() trial {
	return trial{map[string]api.Fact{}, map[string]api.Fact{}}
}

func (t trial) doubt(l []api.Fact) {
	for _, f := range l {
		key := textOf(f)
		t.doubted[key], t.left[key] = f, f
	}
}

// putBack: was the fact left? From now on it is not.
func (t trial) putBack(f api.Fact) bool {
	key := textOf(f)
	_, was := t.left[key]
	delete(t.left, key)
	return was
}

// end makes the trial ready for the next level.
func (t trial) end() {
	clear(t.doubted)
	clear(t.left)
}

// listed answers facts in no order.
func listed(m map[string]api.Fact) []api.Fact { return slices.Collect(maps.Values(m)) }
