package table

import (
	"cabochon/api"
	"slices"
)

// putAll puts rows with different keys, all of them or none.
func (t *Table) putAll(rows [][2]int) api.Errno {
	if t.isNone() {
		return api.ErrArg
	}
	if t.frozen {
		return api.ErrFrozen
	}
	count := 0
	for _, r := range rows {
		if t.lacks(r[0]) {
			count++
		}
	}
	if count > 0 && t.isClosed() {
		return api.ErrState
	}
	if len(t.keys)+count > maxRows {
		return api.ErrFull
	}
	for _, r := range rows {
		t.set(r[0], r[1])
	}
	return api.OK
}

// set sets the value of a key, which keeps its place if it has one.
func (t *Table) set(key, value int) {
	place := t.rows[key].place
	if t.lacks(key) {
		t.keys = append(t.keys, key)
		t.put++
		place = t.put
	}
	t.rows[key] = row{value, place}
}

// Merge puts all rows of another table, from its front.
func (t *Table) Merge(o *Table) api.Errno {
	return t.putAll(o.Rows())
}

// Rekey changes keys, all at once, by pairs of an old one and a new one.
func (t *Table) Rekey(pairs [][2]int) api.Errno {
	changes, ok := changesOf(pairs)
	if !ok || t.isNone() {
		return api.ErrArg
	}
	if t.frozen {
		return api.ErrFrozen
	}
	rows, keys := t.rekeyed(changes)
	if t.isClosed() && slices.ContainsFunc(keys, t.lacks) {
		return api.ErrState
	}
	if slices.ContainsFunc(pairs, func(pair [2]int) bool { return t.lacks(pair[0]) }) {
		return api.ErrNone
	}
	t.rows, t.keys = rows, keys
	return api.OK
}

// changesOf returns the new keys by the old ones, and false if there are too many pairs or an old key comes twice.
func changesOf(pairs [][2]int) (map[int]int, bool) {
	if len(pairs) > maxRows {
		return nil, false
	}
	changes := map[int]int{}
	for _, pair := range pairs {
		changes[pair[0]] = pair[1]
	}
	return changes, len(changes) == len(pairs)
}

// rekeyed returns what the rows and keys of t come to by changes. Of rows that come to one key the first one's place stays, with the last one's value.
func (t *Table) rekeyed(changes map[int]int) (map[int]row, []int) {
	rows := map[int]row{}
	var keys []int
	for _, old := range t.keys {
		key, ok := changes[old]
		if !ok {
			key = old
		}
		next := t.rows[old]
		if first, ok := rows[key]; ok {
			next.place = first.place
		} else {
			keys = append(keys, key)
		}
		rows[key] = next
	}
	return rows, keys
}
