package table

import (
	"cabochon/api"
	"math"
	"slices"
	"testing"
)

// pairsFrom returns so many pairs, of the old keys from 0 on, which come to the keys that are so much more.
func pairsFrom(count, more int) [][2]int {
	var pairs [][2]int
	for i := range count {
		pairs = append(pairs, [2]int{i, i + more})
	}
	return pairs
}

// rekeys changes keys by pairs, which are kept as they are.
func rekeys(t *testing.T, x *Table, pairs [][2]int, numbers ...int) {
	t.Helper()
	kept := slices.Clone(pairs)
	is(t, "Rekey", x.Rekey(pairs), api.OK)
	shows(t, x, numbers...)
	if !slices.Equal(pairs, kept) {
		t.Errorf("pairs %v changed to %v", kept, pairs)
	}
}

// P6.4
func TestRekey(t *testing.T) {
	for _, c := range []struct {
		pairs [][2]int
		want  []int
	}{
		{nil, []int{1, 10, 2, 20, 3, 30}}, {[][2]int{}, []int{1, 10, 2, 20, 3, 30}},
		{[][2]int{{1, 7}}, []int{7, 10, 2, 20, 3, 30}}, {[][2]int{{3, 7}}, []int{1, 10, 2, 20, 7, 30}}, {[][2]int{{2, 0}}, []int{1, 10, 0, 20, 3, 30}},
		{[][2]int{{1, math.MinInt}, {3, math.MaxInt}}, []int{math.MinInt, 10, 2, 20, math.MaxInt, 30}},
		{[][2]int{{2, 2}}, []int{1, 10, 2, 20, 3, 30}}, {[][2]int{{3, 3}, {2, 2}, {1, 1}}, []int{1, 10, 2, 20, 3, 30}},
		{[][2]int{{3, 7}, {1, 8}}, []int{8, 10, 2, 20, 7, 30}}, {[][2]int{{3, 9}, {2, 8}, {1, 7}}, []int{7, 10, 8, 20, 9, 30}},
		// keys that change places, rings and chains
		{[][2]int{{1, 2}, {2, 1}}, []int{2, 10, 1, 20, 3, 30}}, {[][2]int{{3, 1}, {1, 3}}, []int{3, 10, 2, 20, 1, 30}},
		{[][2]int{{1, 2}, {2, 3}, {3, 1}}, []int{2, 10, 3, 20, 1, 30}}, {[][2]int{{1, 3}, {2, 1}, {3, 2}}, []int{3, 10, 1, 20, 2, 30}}, {[][2]int{{3, 2}, {2, 1}, {1, 3}}, []int{3, 10, 1, 20, 2, 30}},
		{[][2]int{{1, 2}, {2, 3}, {3, 4}}, []int{2, 10, 3, 20, 4, 30}}, {[][2]int{{3, 4}, {2, 3}, {1, 2}}, []int{2, 10, 3, 20, 4, 30}}, {[][2]int{{3, 2}, {2, 1}, {1, 0}}, []int{0, 10, 1, 20, 2, 30}},
		{[][2]int{{1, 2}, {2, 4}}, []int{2, 10, 4, 20, 3, 30}}, {[][2]int{{2, 4}, {1, 2}}, []int{2, 10, 4, 20, 3, 30}},
		// several rows that come to one key
		{[][2]int{{1, 7}, {2, 7}}, []int{7, 20, 3, 30}}, {[][2]int{{2, 7}, {1, 7}}, []int{7, 20, 3, 30}}, {[][2]int{{1, 7}, {3, 7}}, []int{7, 30, 2, 20}}, {[][2]int{{3, 7}, {1, 7}}, []int{7, 30, 2, 20}}, {[][2]int{{2, 7}, {3, 7}}, []int{1, 10, 7, 30}},
		{[][2]int{{1, 7}, {2, 7}, {3, 7}}, []int{7, 30}}, {[][2]int{{2, 7}, {3, 7}, {1, 7}}, []int{7, 30}}, {[][2]int{{3, 7}, {2, 7}, {1, 7}}, []int{7, 30}},
		// onto a key that is there and is not changed
		{[][2]int{{1, 2}}, []int{2, 20, 3, 30}}, {[][2]int{{2, 1}}, []int{1, 20, 3, 30}}, {[][2]int{{1, 3}}, []int{3, 30, 2, 20}}, {[][2]int{{3, 1}}, []int{1, 30, 2, 20}},
		{[][2]int{{1, 2}, {3, 2}}, []int{2, 30}}, {[][2]int{{1, 3}, {2, 3}}, []int{3, 30}}, {[][2]int{{2, 1}, {3, 1}}, []int{1, 30}}, {[][2]int{{2, 2}, {3, 2}}, []int{1, 10, 2, 30}},
		// onto a key that goes elsewhere
		{[][2]int{{1, 2}, {2, 3}}, []int{2, 10, 3, 30}}, {[][2]int{{2, 3}, {3, 2}, {1, 2}}, []int{2, 30, 3, 20}}, {[][2]int{{3, 1}, {1, 2}}, []int{2, 20, 1, 30}}, {[][2]int{{1, 2}, {2, 1}, {3, 1}}, []int{2, 10, 1, 30}},
	} {
		rekeys(t, of(1, 10, 2, 20, 3, 30), c.pairs, c.want...)
	}
	rekeys(t, New(), nil)
	rekeys(t, of(5, 50), [][2]int{{5, -5}}, -5, 50)
	rekeys(t, of(0, 1), [][2]int{{0, 0}}, 0, 1)
	x := of(1, 10, 2, 20, 3, 30)
	rekeys(t, x, [][2]int{{1, 7}, {2, 7}}, 7, 20, 3, 30)
	lacking(t, x, 1)
	lacking(t, x, 2)
	x.Put(1, 11)
	x.Put(3, 31)
	rekeys(t, x, [][2]int{{3, 1}, {1, 3}}, 7, 20, 1, 31, 3, 11)
}

// P6.4: pairs that are no argument, and keys that are not there.
func TestRekeyErrors(t *testing.T) {
	for _, c := range []struct {
		pairs [][2]int
		want  api.Errno
	}{
		{[][2]int{{1, 2}, {1, 3}}, api.ErrArg}, {[][2]int{{1, 7}, {1, 7}}, api.ErrArg}, {[][2]int{{1, 7}, {2, 8}, {1, 9}}, api.ErrArg}, {[][2]int{{1, 1}, {1, 1}}, api.ErrArg}, {[][2]int{{9, 1}, {9, 2}}, api.ErrArg}, {[][2]int{{0, 1}, {0, 2}}, api.ErrArg},
		{[][2]int{{9, 1}, {1, 7}, {1, 8}}, api.ErrArg}, // ahead of ErrNone
		{[][2]int{{9, 8}}, api.ErrNone}, {[][2]int{{9, 1}}, api.ErrNone}, {[][2]int{{9, 9}}, api.ErrNone}, {[][2]int{{0, 5}}, api.ErrNone}, {[][2]int{{1, 7}, {9, 8}}, api.ErrNone}, {[][2]int{{9, 8}, {1, 7}}, api.ErrNone}, {[][2]int{{1, 9}, {9, 1}}, api.ErrNone}, {[][2]int{{1, 9}, {9, 7}}, api.ErrNone}, {[][2]int{{1, 1}, {2, 2}, {10, 10}}, api.ErrNone}, {[][2]int{{math.MinInt, 1}}, api.ErrNone}, {[][2]int{{math.MaxInt, 1}}, api.ErrNone},
	} {
		x := of(1, 10, 2, 20, 3, 30)
		is(t, "Rekey", x.Rekey(c.pairs), c.want)
		shows(t, x, 1, 10, 2, 20, 3, 30)
	}
	is(t, "Rekey of an empty one", New().Rekey([][2]int{{1, 2}}), api.ErrNone)
}

// P6.4: 500 and 501 pairs.
func TestRekeyMany(t *testing.T) {
	x := many(500)
	is(t, "Rekey of 499", x.Rekey(pairsFrom(499, 0)), api.OK)
	is(t, "Rekey of 500", x.Rekey(pairsFrom(500, 1)), api.OK)
	var want []int
	for i := range 500 {
		want = append(want, i+1, i)
	}
	shows(t, x, want...)
	for _, more := range []int{0, 1, 1000} {
		is(t, "Rekey of 501", x.Rekey(pairsFrom(501, more)), api.ErrArg)
		is(t, "Rekey of 501 in a small one", of(1, 10).Rekey(pairsFrom(501, more)), api.ErrArg)
		is(t, "Rekey of 500 in a small one", of(1, 10).Rekey(pairsFrom(500, more)), api.ErrNone)
	}
	shows(t, x, want...)
	twice := append(pairsFrom(250, 0), pairsFrom(251, 1)...)
	is(t, "Rekey of 501, some twice", x.Rekey(twice), api.ErrArg)
	var onto [][2]int
	for i := range 500 {
		onto = append(onto, [2]int{i + 1, 7})
	}
	rekeys(t, x, onto, 7, 499)
	is(t, "Put", x.Put(8, 80), api.OK)
	all := append(pairsFrom(500, 1), [2]int{1000, 1})
	is(t, "Rekey of a part of a list", many(500).Rekey(all[:500]), api.OK)
}

// P6.3, P6.4: rows keep their places, as walks have it.
func TestRekeyUnderWalks(t *testing.T) {
	x := of(1, 10, 2, 20, 3, 30, 4, 40)
	a := begins(t, x, 0)
	meets(t, x, a, 1, 2)
	rekeys(t, x, [][2]int{{1, 4}, {4, 1}, {2, 3}, {3, 2}}, 4, 10, 3, 20, 2, 30, 1, 40)
	next := func(walk, key, value int) {
		t.Helper()
		if k, v, err := x.Next(walk); k != key || v != value || err != api.OK {
			t.Errorf("Next: %d, %d (error %d), not %d, %d", k, v, err, key, value)
		}
	}
	next(a, 2, 30)
	next(a, 1, 40)
	x.Put(7, 70)
	next(a, 7, 70)
	fails(t, x, a, api.ErrEnd)
	b := begins(t, x, 1)
	c := begins(t, x, 2)
	for _, key := range []int{4, 3, 2} {
		x.Next(b)
		next(c, key, map[int]int{4: 10, 3: 20, 2: 30}[key])
	}
	is(t, "Stop", x.Stop(c), api.OK)
	rekeys(t, x, [][2]int{{4, 9}, {1, 9}}, 9, 40, 3, 20, 2, 30, 7, 70) // the row ahead of b goes, to a place that b is past
	next(b, 7, 70)
	fails(t, x, b, api.ErrEnd)

	y := of(1, 10, 2, 20, 3, 30, 4, 40)
	d := begins(t, y, 0)
	meets(t, y, d, 1, 2)
	rekeys(t, y, [][2]int{{1, 5}, {2, 5}}, 5, 20, 3, 30, 4, 40) // the row that d told last goes
	meets(t, y, d, 3)
	rekeys(t, y, [][2]int{{5, 3}, {3, 5}}, 3, 20, 5, 30, 4, 40)
	ends(t, y, d, 4)

	z := of(1, 10, 2, 20, 3, 30, 4, 40)
	e := begins(t, z, 0)
	meets(t, z, e, 1)
	rekeys(t, z, [][2]int{{2, 4}}, 1, 10, 4, 40, 3, 30) // both ahead of e: the first one's place counts
	ends(t, z, e, 4, 3)
	f := begins(t, z, 1)
	meets(t, z, f, 1, 4)
	rekeys(t, z, [][2]int{{1, 6}, {4, 1}, {3, 4}}, 6, 10, 1, 40, 4, 30)
	z.Put(3, 30)
	takes(t, z, 4, 30)
	ends(t, z, f, 3)
}

// P6.3: a new key of the result is what Strict is asked for.
func TestStrictRekey(t *testing.T) {
	for _, c := range []struct {
		pairs [][2]int
		want  api.Errno
	}{
		{nil, api.OK}, {[][2]int{{1, 1}}, api.OK}, {[][2]int{{1, 2}, {2, 1}}, api.OK}, {[][2]int{{1, 2}}, api.OK}, {[][2]int{{3, 1}, {2, 1}}, api.OK}, {[][2]int{{1, 2}, {2, 3}, {3, 1}}, api.OK},
		{[][2]int{{1, 4}}, api.ErrState}, {[][2]int{{3, 0}}, api.ErrState}, {[][2]int{{1, 2}, {2, 4}}, api.ErrState}, {[][2]int{{1, 4}, {2, 4}}, api.ErrState}, {[][2]int{{1, 2}, {2, 1}, {3, 4}}, api.ErrState}, {[][2]int{{1, math.MinInt}}, api.ErrState}, {[][2]int{{1, math.MaxInt}}, api.ErrState},
		{[][2]int{{1, 4}, {1, 5}}, api.ErrArg}, {[][2]int{{1, 4}, {9, 1}}, api.ErrState}, {[][2]int{{9, 1}, {1, 4}}, api.ErrState}, {[][2]int{{1, 9}, {9, 1}}, api.ErrState},
		{[][2]int{{9, 1}}, api.ErrNone}, {[][2]int{{9, 9}}, api.ErrNone}, {[][2]int{{9, 8}}, api.ErrNone}, {[][2]int{{1, 2}, {9, 8}}, api.ErrNone}, // no row has the key 9, and so none comes to 8
	} {
		x := of(1, 10, 2, 20, 3, 30)
		begins(t, x, 0)
		x.Strict(true)
		kept := x.Rows()
		is(t, "Rekey", x.Rekey(c.pairs), c.want)
		if c.want != api.OK && !slices.Equal(x.Rows(), kept) {
			t.Errorf("%v: changed to %v", c.pairs, x.Rows())
		}
	}
	x := of(1, 10, 2, 20)
	x.Strict(true)
	rekeys(t, x, [][2]int{{1, 3}}, 3, 10, 2, 20) // no walk
	a := begins(t, x, 0)
	is(t, "Rekey", x.Rekey([][2]int{{3, 1}}), api.ErrState)
	is(t, "Stop", x.Stop(a), api.OK)
	rekeys(t, x, [][2]int{{3, 1}}, 1, 10, 2, 20)
	begins(t, x, 1)
	x.Strict(false)
	rekeys(t, x, [][2]int{{1, 3}}, 3, 10, 2, 20)
}

// merges merges a table, which is kept as it is.
func merges(t *testing.T, x, o *Table, numbers ...int) {
	t.Helper()
	kept := o.Rows()
	is(t, "Merge", x.Merge(o), api.OK)
	shows(t, x, numbers...)
	if x != o && !slices.Equal(o.Rows(), kept) {
		t.Errorf("%v changed to %v", kept, o.Rows())
	}
}

// P6.4
func TestMerge(t *testing.T) {
	x := of(1, 10, 2, 20)
	for _, o := range append(nones(), New(), x) {
		merges(t, x, o, 1, 10, 2, 20)
		merges(t, New(), o, slices.Concat(flat(o.Rows())...)...)
	}
	merges(t, x, of(5, 50, 4, 40), 1, 10, 2, 20, 5, 50, 4, 40)
	merges(t, x, of(4, 41, 0, 0, 1, 11), 1, 11, 2, 20, 5, 50, 4, 41, 0, 0)
	merges(t, x, x, 1, 11, 2, 20, 5, 50, 4, 41, 0, 0)
	o := of(7, 70, 2, 22)
	merges(t, x, o, 1, 11, 2, 22, 5, 50, 4, 41, 0, 0, 7, 70)
	x.Put(7, 71)
	x.Delete(2)
	shows(t, o, 7, 70, 2, 22)
	o.Put(7, 72)
	o.Put(8, 80)
	shows(t, x, 1, 11, 5, 50, 4, 41, 0, 0, 7, 71)
	o.Freeze()
	merges(t, x, o, 1, 11, 5, 50, 4, 41, 0, 0, 7, 72, 2, 22, 8, 80)
	if x.Frozen() {
		t.Error("frozen by a merge")
	}
	merges(t, New(), of(math.MaxInt, math.MinInt, math.MinInt, math.MaxInt), math.MaxInt, math.MinInt, math.MinInt, math.MaxInt)
}

// P6.4: tables that come to 500 rows and to 501 rows.
func TestMergeFull(t *testing.T) {
	x := many(499)
	is(t, "Merge to 500", x.Merge(of(3, 33, 1000, 1)), api.OK)
	if x.Len() != 500 {
		t.Errorf("%d rows", x.Len())
	}
	kept := x.Rows()
	if kept[3] != [2]int{3, 33} || kept[499] != [2]int{1000, 1} {
		t.Errorf("rows %v and %v", kept[3], kept[499])
	}
	is(t, "Merge to 501", x.Merge(of(5, 55, 1001, 1)), api.ErrFull)
	is(t, "Merge of a new one alone", x.Merge(of(-1, 1)), api.ErrFull)
	is(t, "Merge of many", x.Merge(many(500)), api.ErrFull) // 499 is new
	if !slices.Equal(x.Rows(), kept) {
		t.Errorf("changed to %v", x.Rows())
	}
	is(t, "Merge of what is there", x.Merge(of(5, 55, 1000, 2)), api.OK)
	is(t, "Merge of itself", x.Merge(x), api.OK)
	is(t, "Merge of none", x.Merge(nil), api.OK)
	y := New()
	is(t, "Merge of 500", y.Merge(x), api.OK)
	if !Same(x, y) || y.Len() != 500 {
		t.Errorf("%v, not %v", y.Rows(), x.Rows())
	}
	two := of(1, 10, -1, -10)
	is(t, "Merge of 500 into two", two.Merge(x), api.ErrFull)
	shows(t, two, 1, 10, -1, -10)
	one := of(1, 10)
	is(t, "Merge of 500 into one of them", one.Merge(x), api.OK)
	if one.Len() != 500 {
		t.Errorf("%d rows", one.Len())
	}
}

// P6.3, P6.4: merging into strict tables, and under walks.
func TestMergeUnderWalks(t *testing.T) {
	x := of(1, 10, 2, 20)
	a := begins(t, x, 0)
	meets(t, x, a, 1)
	merges(t, x, of(3, 30, 1, 11), 1, 11, 2, 20, 3, 30)
	meets(t, x, a, 2, 3)
	x.Strict(true)
	for _, o := range []*Table{of(4, 40), of(1, 12, 4, 40), of(4, 40, 1, 12), many(500)} {
		is(t, "Merge of a new key", x.Merge(o), api.ErrState)
		shows(t, x, 1, 11, 2, 20, 3, 30)
	}
	for _, o := range append(nones(), New(), x) {
		merges(t, x, o, 1, 11, 2, 20, 3, 30)
	}
	merges(t, x, of(3, 30, 1, 10), 1, 10, 2, 20, 3, 30)
	ends(t, x, a)
	merges(t, x, of(4, 40), 1, 10, 2, 20, 3, 30, 4, 40)
	b := begins(t, x, 1)
	x.Strict(false)
	merges(t, x, of(5, 50), 1, 10, 2, 20, 3, 30, 4, 40, 5, 50)
	ends(t, x, b, 1, 2, 3, 4, 5)
	o := of(6, 60) // what the other one is does not count
	o.Strict(true)
	begins(t, o, 0)
	merges(t, x, o, 1, 10, 2, 20, 3, 30, 4, 40, 5, 50, 6, 60)
	ends(t, o, 0, 6)
	is(t, "Put", x.Put(7, 70), api.OK)
}

// P6.4: copies are changed on both sides.
func TestCopy(t *testing.T) {
	x := of(1, 10, 2, 20, 3, 30)
	y := x.Copy()
	if x == y {
		t.Error("a copy is the table itself")
	}
	shows(t, y, 1, 10, 2, 20, 3, 30)
	x.Put(1, 11)
	x.Put(4, 40)
	takes(t, x, 2, 20)
	shows(t, y, 1, 10, 2, 20, 3, 30)
	y.Put(3, 33)
	y.Put(5, 50)
	shifts(t, y, 1, 10)
	shows(t, x, 1, 11, 3, 30, 4, 40)
	rekeys(t, y, [][2]int{{2, 7}}, 7, 20, 3, 33, 5, 50)
	shows(t, x, 1, 11, 3, 30, 4, 40)
	y.Freeze()
	if x.Frozen() {
		t.Error("frozen by its copy")
	}
	z := y.Copy()
	if z.Frozen() {
		t.Error("a copy is frozen")
	}
	is(t, "Put", z.Put(8, 80), api.OK)
	shows(t, z, 7, 20, 3, 33, 5, 50, 8, 80)
	shows(t, y, 7, 20, 3, 33, 5, 50)
	empty := New().Copy()
	if empty == nil {
		t.Fatal("an empty table has no copy")
	}
	shows(t, empty)
	is(t, "Put", empty.Put(1, 10), api.OK)
	shows(t, empty, 1, 10)
	full := many(500).Copy()
	if !Same(full, many(500)) || full.Len() != 500 {
		t.Errorf("a copy of 500 rows: %v", full.Rows())
	}
	is(t, "Put into a full copy", full.Put(500, 1), api.ErrFull)
}

// P6.4: a copy is not strict and has no walks.
func TestCopyOfWalks(t *testing.T) {
	x := of(1, 10, 2, 20, 3, 30)
	takes(t, x, 1, 10)
	x.Put(1, 10)
	for n := range 20 {
		begins(t, x, n)
	}
	meets(t, x, 5, 2, 3)
	x.Strict(true)
	y := x.Copy()
	for n := range 20 {
		gone(t, y, n)
	}
	begins(t, y, 0)
	is(t, "Put into the copy", y.Put(4, 40), api.OK)
	is(t, "Put", x.Put(4, 40), api.ErrState)
	y.Strict(true)
	is(t, "Put into the copy", y.Put(5, 50), api.ErrState)
	ends(t, y, 0, 2, 3, 1, 4)
	x.Strict(false)
	is(t, "Put", x.Put(4, 40), api.OK)
	y.Strict(false)
	is(t, "Stop", x.Stop(7), api.OK)
	begins(t, y, 1)
	ends(t, x, 5, 1, 4)
	ends(t, x, 0, 2, 3, 1, 4)
	ends(t, y, 1, 2, 3, 1, 4)
}

// P6.4
func TestSame(t *testing.T) {
	frozen := of(1, 10, 2, 20)
	frozen.Freeze()
	walked := of(9, 90, 2, 20, 1, 10)
	walked.Delete(9)
	walked.Delete(2)
	walked.Put(2, 20)
	walked.Walk()
	walked.Strict(true)
	groups := [][]*Table{
		append(nones(), New(), New().Copy()),
		{of(1, 10, 2, 20), of(1, 10, 2, 20), frozen, frozen.Copy(), walked},
		{of(2, 20, 1, 10)}, {of(1, 20, 2, 10)}, {of(1, 10)}, {of(1, 0)}, {of(0, 1)}, {of(0, 0)}, {of(2, 20)}, {of(1, 10, 2, 21)}, {of(1, 11, 2, 20)}, {of(1, 10, 3, 20)}, {of(3, 10, 2, 20)}, {of(1, 10, 2, 20, 3, 30)}, {of(0, 0, 1, 10, 2, 20)},
		{many(499)}, {many(500), many(500)}, {of(math.MinInt, math.MaxInt)}, {of(math.MaxInt, math.MinInt)},
	}
	for i, group := range groups {
		for _, x := range group {
			for j, others := range groups {
				for _, y := range others {
					if Same(x, y) != (i == j) {
						t.Errorf("%v and %v: %t", x.Rows(), y.Rows(), Same(x, y))
					}
				}
			}
		}
	}
}
