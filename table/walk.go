package table

import (
	"cabochon/api"
	"sort"
)

const maxWalks = 20

// Walk begins a walk ahead of all rows, and returns its number.
func (t *Table) Walk() (int, api.Errno) {
	if t.isNone() {
		return 0, api.ErrArg
	}
	if len(t.walks) == maxWalks {
		return 0, api.ErrFull
	}
	walk := t.begun
	t.begun++
	t.walks[walk] = 0 // the first row that is ever put in has the place 1
	return walk, api.OK
}

// isOn tells whether a walk was begun and is not over.
func (t *Table) isOn(walk int) bool {
	_, ok := t.walks[walk]
	return ok
}

// Next returns the row at a walk's place, and goes on behind it. If nothing is left the walk is over.
func (t *Table) Next(walk int) (key, value int, err api.Errno) {
	if t.isNone() || !t.isOn(walk) {
		return 0, 0, api.ErrArg
	}
	key, value, err = t.At(t.behind(t.walks[walk]))
	if err != api.OK {
		delete(t.walks, walk)
		return 0, 0, api.ErrEnd
	}
	t.walks[walk] = t.rows[key].place
	return key, value, api.OK
}

// behind returns the index of the first row behind a place, at which a row need not be any more.
func (t *Table) behind(place int) int {
	return sort.Search(len(t.keys), func(i int) bool {
		return t.rows[t.keys[i]].place > place
	})
}

// Stop ends a walk.
func (t *Table) Stop(walk int) api.Errno {
	if t.isNone() || !t.isOn(walk) {
		return api.ErrArg
	}
	delete(t.walks, walk)
	return api.OK
}

// Strict turns on or off that no new key comes while a walk is not over.
func (t *Table) Strict(on bool) {
	if !t.isNone() {
		t.strict = on
	}
}

// isClosed tells whether no new key may come now.
func (t *Table) isClosed() bool {
	return t.strict && len(t.walks) > 0
}
