package table

import (
	"cabochon/api"
	"math"
	"slices"
	"testing"
)

// begins begins a walk, which must have this number.
func begins(t *testing.T, x *Table, want int) int {
	t.Helper()
	walk, err := x.Walk()
	if walk != want || err != api.OK {
		t.Errorf("Walk: %d (error %d), not %d", walk, err, want)
	}
	return walk
}

// meets calls Next for each of these keys. Each has ten times itself as its value.
func meets(t *testing.T, x *Table, walk int, keys ...int) {
	t.Helper()
	for _, key := range keys {
		if k, v, err := x.Next(walk); k != key || v != 10*key || err != api.OK {
			t.Errorf("Next of walk %d: %d, %d (error %d), not %d", walk, k, v, err, key)
		}
	}
}

// fails calls Next, which must return an error.
func fails(t *testing.T, x *Table, walk int, want api.Errno) {
	t.Helper()
	if k, v, err := x.Next(walk); k != 0 || v != 0 || err != want {
		t.Errorf("Next of walk %d: %d, %d (error %d), not error %d", walk, k, v, err, want)
	}
}

// ends meets the last rows, and calls a walk until it is over, and once more.
func ends(t *testing.T, x *Table, walk int, keys ...int) {
	t.Helper()
	meets(t, x, walk, keys...)
	fails(t, x, walk, api.ErrEnd)
	gone(t, x, walk)
}

// gone calls with the number of a walk that is not there, or over.
func gone(t *testing.T, x *Table, walk int) {
	t.Helper()
	fails(t, x, walk, api.ErrArg)
	is(t, "Stop", x.Stop(walk), api.ErrArg)
	fails(t, x, walk, api.ErrArg)
}

// P6.3, P6.5
func TestWalk(t *testing.T) {
	x := of(3, 30, 1, 10, 2, 20)
	ends(t, x, begins(t, x, 0), 3, 1, 2)
	shows(t, x, 3, 30, 1, 10, 2, 20)
	ends(t, x, begins(t, x, 1), 3, 1, 2)
	one := of(7, 70)
	ends(t, one, begins(t, one, 0), 7)
	empty := New()
	ends(t, empty, begins(t, empty, 0))
	ends(t, empty, begins(t, empty, 1))
	empty.Put(4, 40)
	gone(t, empty, 0) // a walk that is over stays over
	gone(t, empty, 1)
	ends(t, empty, begins(t, empty, 2), 4)
}

// P6.3: walks beside each other.
func TestWalksBesideEachOther(t *testing.T) {
	x := of(1, 10, 2, 20, 3, 30)
	a, b := begins(t, x, 0), begins(t, x, 1)
	meets(t, x, a, 1, 2)
	meets(t, x, b, 1)
	c := begins(t, x, 2)
	ends(t, x, a, 3)
	meets(t, x, c, 1)
	ends(t, x, b, 2, 3)
	x.Put(4, 40)
	ends(t, x, c, 2, 3, 4)
}

// P6.3: numbers of walks that are not there, are over, are stopped, are negative.
func TestNumbersOfWalks(t *testing.T) {
	x := of(1, 10, 2, 20)
	for _, n := range edges {
		gone(t, x, n)
	}
	a := begins(t, x, 0)
	b := begins(t, x, 1)
	for _, n := range edges {
		if n != a && n != b {
			gone(t, x, n)
		}
	}
	gone(t, x, 2)
	ends(t, x, a, 1, 2)
	gone(t, x, 0)
	is(t, "Stop 1", x.Stop(b), api.OK)
	gone(t, x, 1)
	begins(t, x, 2) // over and stopped ones count
	gone(t, x, 3)
	y := of(1, 10)
	gone(t, y, 2) // another table's walk
	begins(t, y, 0)
}

// P6.3
func TestStop(t *testing.T) {
	x := of(1, 10, 2, 20)
	a, b := begins(t, x, 0), begins(t, x, 1)
	meets(t, x, a, 1)
	is(t, "Stop 0", x.Stop(a), api.OK)
	gone(t, x, a)
	meets(t, x, b, 1, 2)
	is(t, "Stop at the end", x.Stop(b), api.OK)
	gone(t, x, b)
	c := begins(t, x, 2)
	is(t, "Stop at the front", x.Stop(c), api.OK)
	gone(t, x, c)
	shows(t, x, 1, 10, 2, 20)
	empty := New()
	is(t, "Stop in an empty table", empty.Stop(begins(t, empty, 0)), api.OK)
}

// P6.3: 20 walks that are not over, and one more.
func TestManyWalks(t *testing.T) {
	for _, x := range []*Table{New(), of(1, 10), many(500)} {
		for n := range 20 {
			begins(t, x, n)
		}
		full := func() {
			t.Helper()
			if n, err := x.Walk(); n != 0 || err != api.ErrFull {
				t.Errorf("a walk more: %d, error %d", n, err)
			}
		}
		full()
		full()
		gone(t, x, 20)
		is(t, "Stop 7", x.Stop(7), api.OK)
		begins(t, x, 20)
		full()
		gone(t, x, 21)
		for range x.Len() {
			x.Next(3)
		}
		full() // it has not told that it is at the end
		fails(t, x, 3, api.ErrEnd)
		begins(t, x, 21)
		full()
		gone(t, x, 3)
		gone(t, x, 7)
		is(t, "Stop 20", x.Stop(20), api.OK)
		is(t, "Stop 0", x.Stop(0), api.OK)
		begins(t, x, 22)
		begins(t, x, 23)
		full()
	}
}

// P6.3: more than 20 walks, one after the other.
func TestWalksOneByOne(t *testing.T) {
	x := of(1, 10)
	for n := range 100 {
		walk := begins(t, x, n)
		if n%2 == 0 {
			ends(t, x, walk, 1)
		} else {
			is(t, "Stop", x.Stop(walk), api.OK)
		}
	}
	gone(t, x, 0)
	gone(t, x, 99)
}

// P6.3: rows that are put in.
func TestWalkMeetsWhatIsPutIn(t *testing.T) {
	x := of(1, 10, 2, 20)
	a := begins(t, x, 0)
	meets(t, x, a, 1)
	x.Put(3, 30)
	x.Put(1, 11) // its place is behind the walk, and stays there
	x.Put(2, 20)
	meets(t, x, a, 2, 3)
	x.Put(4, 40) // the walk stands at the end, but has not told so
	meets(t, x, a, 4)
	x.Put(0, 0)
	ends(t, x, a, 0)
	x.Put(5, 50)
	gone(t, x, a)
	y := New()
	b := begins(t, y, 0)
	y.Put(8, 80)
	y.Put(6, 60)
	ends(t, y, b, 8, 6)
	c := begins(t, y, 1)
	meets(t, y, c, 8)
	y.Put(6, 66)
	if k, v, err := y.Next(c); k != 6 || v != 66 || err != api.OK { // the value that it has now
		t.Errorf("Next: %d, %d, error %d", k, v, err)
	}
}

// P6.3: rows that are taken out, ahead of a walk's place and behind it.
func TestWalkMeetsNothingTakenOut(t *testing.T) {
	x := of(1, 10, 2, 20, 3, 30, 4, 40, 5, 50)
	a := begins(t, x, 0)
	takes(t, x, 1, 10) // ahead of the walk, at whose place it would have been
	meets(t, x, a, 2)
	takes(t, x, 2, 20) // just told
	meets(t, x, a, 3)
	takes(t, x, 4, 40)
	meets(t, x, a, 5)
	shifts(t, x, 3, 30)
	takes(t, x, 5, 50)
	ends(t, x, a)

	y := of(1, 10, 2, 20, 3, 30)
	b := begins(t, y, 0)
	meets(t, y, b, 1, 2, 3)
	takes(t, y, 2, 20)
	takes(t, y, 1, 10)
	ends(t, y, b)

	z := of(1, 10, 2, 20, 3, 30)
	c := begins(t, z, 0)
	meets(t, z, c, 1)
	for range 3 {
		z.Shift()
	}
	z.Put(4, 40)
	ends(t, z, c, 4)

	queue := of(1, 10, 2, 20, 3, 30, 4, 40)
	d := begins(t, queue, 0)
	for _, key := range []int{1, 2, 3, 4} {
		meets(t, queue, d, key)
		shifts(t, queue, key, 10*key)
	}
	ends(t, queue, d)
}

// P6.3, example 1: rows that are taken out and put in again.
func TestWalkMeetsAgain(t *testing.T) {
	x := of(1, 10, 2, 20)
	a := begins(t, x, 0)
	meets(t, x, a, 1)
	takes(t, x, 2, 20)
	x.Put(2, 20)
	x.Put(3, 30)
	ends(t, x, a, 2, 3)

	y := of(1, 10, 2, 20, 3, 30)
	b := begins(t, y, 0)
	meets(t, y, b, 1, 2)
	takes(t, y, 1, 10)
	y.Put(1, 10)
	meets(t, y, b, 3, 1)
	takes(t, y, 1, 10)
	y.Put(1, 10) // the one that the walk told last
	ends(t, y, b, 1)

	z := of(1, 10, 2, 20, 3, 30)
	c := begins(t, z, 0)
	takes(t, z, 1, 10)
	z.Put(1, 10)
	takes(t, z, 3, 30)
	z.Put(3, 30)
	takes(t, z, 3, 30)
	z.Put(3, 30)
	ends(t, z, c, 2, 1, 3)

	alone := of(1, 10)
	d := begins(t, alone, 0)
	for range 5 {
		meets(t, alone, d, 1)
		shifts(t, alone, 1, 10)
		alone.Put(1, 10)
	}
	ends(t, alone, d, 1)
}

// P6.3: with and without walks that are not over.
func TestStrict(t *testing.T) {
	x := of(1, 10, 2, 20)
	x.Strict(true)
	is(t, "Put 3 without a walk", x.Put(3, 30), api.OK)
	a := begins(t, x, 0)
	b := begins(t, x, 1)
	meets(t, x, a, 1)
	for _, key := range []int{4, 0, -1, math.MinInt, math.MaxInt} {
		is(t, "Put a new key", x.Put(key, 1), api.ErrState)
	}
	is(t, "Put 3", x.Put(3, 31), api.OK)
	is(t, "Put 1", x.Put(1, 11), api.OK)
	shows(t, x, 1, 11, 2, 20, 3, 31)
	takes(t, x, 2, 20)
	is(t, "Put 2, which is gone", x.Put(2, 20), api.ErrState)
	shifts(t, x, 1, 11)
	shows(t, x, 3, 31)
	is(t, "Stop", x.Stop(b), api.OK)
	is(t, "Put 2", x.Put(2, 20), api.ErrState) // the other walk is on
	x.Next(a)
	is(t, "Put 2", x.Put(2, 20), api.ErrState) // it has not told that it is at the end
	fails(t, x, a, api.ErrEnd)
	is(t, "Put 2", x.Put(2, 20), api.OK)
	c := begins(t, x, 2)
	is(t, "Put 5", x.Put(5, 50), api.ErrState)
	is(t, "Stop", x.Stop(c), api.OK)
	is(t, "Put 5", x.Put(5, 50), api.OK)
	shows(t, x, 3, 31, 2, 20, 5, 50)
}

// P6.3: Strict turned on and off with a walk under way.
func TestStrictOnAndOff(t *testing.T) {
	x := of(1, 10)
	a := begins(t, x, 0)
	is(t, "Put 2", x.Put(2, 20), api.OK)
	x.Strict(true)
	is(t, "Put 3", x.Put(3, 30), api.ErrState)
	x.Strict(true)
	is(t, "Put 3", x.Put(3, 30), api.ErrState)
	x.Strict(false)
	is(t, "Put 3", x.Put(3, 30), api.OK)
	x.Strict(false)
	ends(t, x, a, 1, 2, 3)
	x.Strict(true)
	x.Strict(false)
	begins(t, x, 1)
	is(t, "Put 4", x.Put(4, 40), api.OK)
	shows(t, x, 1, 10, 2, 20, 3, 30, 4, 40)
	empty := New()
	empty.Strict(true)
	begins(t, empty, 0)
	is(t, "Put 1 into an empty one", empty.Put(1, 10), api.ErrState)
	shows(t, empty)
}

// P6.3: each function that changes something, and each that does not.
func TestFreeze(t *testing.T) {
	x := of(1, 10, 2, 20)
	a := begins(t, x, 0)
	meets(t, x, a, 1)
	if x.Frozen() {
		t.Error("frozen")
	}
	for range 2 {
		x.Freeze()
		if !x.Frozen() {
			t.Error("not frozen")
		}
		for _, key := range []int{1, 2, 3, math.MinInt, math.MaxInt} {
			is(t, "Put", x.Put(key, 1), api.ErrFrozen)
			if v, err := x.Delete(key); v != 0 || err != api.ErrFrozen {
				t.Errorf("Delete: %d, error %d", v, err)
			}
			is(t, "Rekey", x.Rekey([][2]int{{key, 1}}), api.ErrFrozen)
			is(t, "Merge", x.Merge(of(key, 1)), api.ErrFrozen)
		}
		if k, v, err := x.Shift(); k != 0 || v != 0 || err != api.ErrFrozen {
			t.Errorf("Shift: %d, %d, error %d", k, v, err)
		}
		is(t, "Rekey of no pairs", x.Rekey(nil), api.ErrFrozen)
		for _, o := range append(nones(), New(), x) {
			is(t, "Merge", x.Merge(o), api.ErrFrozen)
		}
		shows(t, x, 1, 10, 2, 20)
	}
	b := begins(t, x, 1)
	x.Strict(true)
	x.Strict(false)
	if !x.Frozen() {
		t.Error("not frozen")
	}
	ends(t, x, a, 2)
	ends(t, x, b, 1, 2)
	is(t, "Stop", x.Stop(begins(t, x, 2)), api.OK)
	if y := of(1, 10); y.Frozen() {
		t.Error("another table is frozen")
	}
	empty := New()
	empty.Freeze()
	is(t, "Put into an empty one", empty.Put(1, 1), api.ErrFrozen)
	if _, _, err := empty.Shift(); err != api.ErrFrozen {
		t.Errorf("Shift of an empty one: error %d", err)
	}
	shows(t, empty)
}

// P6.5: a walk without changes gives the rows, of however many there are.
func TestWalkGivesRows(t *testing.T) {
	for _, count := range []int{0, 1, 2, 3, 4, 5, 16, 17, 499, 500} {
		x := many(count)
		walk := begins(t, x, 0)
		var rows [][2]int
		for {
			k, v, err := x.Next(walk)
			if err != api.OK {
				is(t, "the last Next", err, api.ErrEnd)
				break
			}
			rows = append(rows, [2]int{k, v})
		}
		if !slices.Equal(rows, x.Rows()) || len(rows) != count {
			t.Errorf("%d rows: met %v", count, rows)
		}
	}
}
