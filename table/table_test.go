package table

import (
	"cabochon/api"
	"math"
	"slices"
	"testing"
)

// edges are keys, values, indexes and numbers of walks at the ends of int and around 0.
var edges = []int{math.MinInt, math.MinInt + 1, -1 << 32, -1, 0, 1, 1 << 32, math.MaxInt - 1, math.MaxInt}

// of returns a table with these keys and values, in turn.
func of(numbers ...int) *Table {
	x := New()
	for i := 0; i < len(numbers); i += 2 {
		x.Put(numbers[i], numbers[i+1])
	}
	return x
}

// many returns a table with the keys from 0 on, of which each has itself as its value.
func many(count int) *Table {
	x := New()
	for i := range count {
		x.Put(i, i)
	}
	return x
}

// nones returns what behaves like a table that is nil.
func nones() []*Table {
	return []*Table{nil, {}, new(Table)}
}

// shows holds all that x tells of its rows against keys and values, in turn.
func shows(t *testing.T, x *Table, numbers ...int) {
	t.Helper()
	if x.Len() != len(numbers)/2 {
		t.Errorf("%d rows, not %d", x.Len(), len(numbers)/2)
	}
	rows := x.Rows()
	if !slices.Equal(slices.Concat(flat(rows)...), numbers) {
		t.Errorf("rows %v, not %v", rows, numbers)
	}
	for i := 0; i < len(numbers); i += 2 {
		key, value := numbers[i], numbers[i+1]
		if k, v, err := x.At(i / 2); k != key || v != value || err != api.OK {
			t.Errorf("At %d: %d, %d (error %d), not %d, %d", i/2, k, v, err, key, value)
		}
		if v, err := x.Get(key); v != value || err != api.OK {
			t.Errorf("Get %d: %d (error %d), not %d", key, v, err, value)
		}
		if n, err := x.Where(key); n != i/2 || err != api.OK {
			t.Errorf("Where %d: %d (error %d), not %d", key, n, err, i/2)
		}
	}
	key, value, want := 0, 0, api.ErrNone
	if len(numbers) > 0 {
		key, value, want = numbers[0], numbers[1], api.OK
	}
	if k, v, err := x.First(); k != key || v != value || err != want {
		t.Errorf("First: %d, %d (error %d), not %d, %d (error %d)", k, v, err, key, value, want)
	}
	if k, v, err := x.At(len(numbers) / 2); k != 0 || v != 0 || err != api.ErrNone {
		t.Errorf("At %d: %d, %d, error %d", len(numbers)/2, k, v, err)
	}
}

func flat(rows [][2]int) [][]int {
	var list [][]int
	for _, r := range rows {
		list = append(list, []int{r[0], r[1]})
	}
	return list
}

func is(t *testing.T, what string, err, want api.Errno) {
	t.Helper()
	if err != want {
		t.Errorf("%s: error %d, not %d", what, err, want)
	}
}

// lacking asks for a key that is not there.
func lacking(t *testing.T, x *Table, key int) {
	t.Helper()
	if v, err := x.Get(key); v != 0 || err != api.ErrNone {
		t.Errorf("Get %d: %d, error %d", key, v, err)
	}
	if n, err := x.Where(key); n != 0 || err != api.ErrNone {
		t.Errorf("Where %d: %d, error %d", key, n, err)
	}
	if v, err := x.Delete(key); v != 0 || err != api.ErrNone {
		t.Errorf("Delete %d: %d, error %d", key, v, err)
	}
}

// takes deletes a key that is there.
func takes(t *testing.T, x *Table, key, value int) {
	t.Helper()
	if v, err := x.Delete(key); v != value || err != api.OK {
		t.Errorf("Delete %d: %d (error %d), not %d", key, v, err, value)
	}
}

// shifts takes the first row.
func shifts(t *testing.T, x *Table, key, value int) {
	t.Helper()
	if k, v, err := x.Shift(); k != key || v != value || err != api.OK {
		t.Errorf("Shift: %d, %d (error %d), not %d, %d", k, v, err, key, value)
	}
}

// P6.2
func TestPut(t *testing.T) {
	x := New()
	if x == nil || x == New() {
		t.Fatal("no new table")
	}
	shows(t, x)
	is(t, "Put 5", x.Put(5, 50), api.OK)
	shows(t, x, 5, 50)
	is(t, "Put 3", x.Put(3, 30), api.OK)
	is(t, "Put 4", x.Put(4, 50), api.OK)
	shows(t, x, 5, 50, 3, 30, 4, 50)
	is(t, "Put 5 again", x.Put(5, 51), api.OK)
	shows(t, x, 5, 51, 3, 30, 4, 50)
	is(t, "Put 3 as it is", x.Put(3, 30), api.OK)
	is(t, "Put 4 as 0", x.Put(4, 0), api.OK)
	shows(t, x, 5, 51, 3, 30, 4, 0)
	is(t, "Put 0 as 0", x.Put(0, 0), api.OK)
	shows(t, x, 5, 51, 3, 30, 4, 0, 0, 0)
	y := New()
	is(t, "Put 5 elsewhere", y.Put(5, 7), api.OK)
	shows(t, y, 5, 7)
	shows(t, x, 5, 51, 3, 30, 4, 0, 0, 0)
}

// P6.2: the smallest and the greatest int as keys and values.
func TestEdgesOfInt(t *testing.T) {
	x := New()
	var want []int
	for i, n := range edges {
		is(t, "Put", x.Put(n, edges[len(edges)-1-i]), api.OK)
		want = append(want, n, edges[len(edges)-1-i])
	}
	shows(t, x, want...)
	for i := 0; i < len(want); i += 2 {
		takes(t, x, want[i], want[i+1])
		shows(t, x, want[i+2:]...)
	}
}

// P6.2
func TestDelete(t *testing.T) {
	x := of(1, 10, 2, 20, 3, 30, 4, 40)
	takes(t, x, 2, 20)
	shows(t, x, 1, 10, 3, 30, 4, 40)
	lacking(t, x, 2)
	takes(t, x, 4, 40)
	shows(t, x, 1, 10, 3, 30)
	takes(t, x, 1, 10)
	shows(t, x, 3, 30)
	is(t, "Put 1", x.Put(1, 11), api.OK) // behind all now
	shows(t, x, 3, 30, 1, 11)
	takes(t, x, 3, 30)
	takes(t, x, 1, 11)
	shows(t, x)
	lacking(t, x, 1)
	is(t, "Put 2", x.Put(2, 22), api.OK)
	shows(t, x, 2, 22)
}

// P6.2
func TestLacking(t *testing.T) {
	for _, key := range []int{math.MinInt, -1, 0, 1, 10, 30, 40, math.MaxInt} {
		x := of(20, 1, 3, 10, 4, 30)
		lacking(t, x, key)
		shows(t, x, 20, 1, 3, 10, 4, 30)
		lacking(t, New(), key)
	}
}

// P6.2
func TestShift(t *testing.T) {
	x := of(3, 30, 1, 10, 2, 20)
	shifts(t, x, 3, 30)
	shows(t, x, 1, 10, 2, 20)
	lacking(t, x, 3)
	is(t, "Put 3", x.Put(3, 31), api.OK)
	shifts(t, x, 1, 10)
	shifts(t, x, 2, 20)
	shows(t, x, 3, 31)
	shifts(t, x, 3, 31)
	shows(t, x)
	for range 2 {
		if k, v, err := x.Shift(); k != 0 || v != 0 || err != api.ErrNone {
			t.Errorf("Shift of an empty table: %d, %d, error %d", k, v, err)
		}
		if k, v, err := x.First(); k != 0 || v != 0 || err != api.ErrNone {
			t.Errorf("First of an empty table: %d, %d, error %d", k, v, err)
		}
	}
	is(t, "Put 9", x.Put(9, 90), api.OK)
	shows(t, x, 9, 90)
}

// P6.2
func TestAt(t *testing.T) {
	for _, c := range []struct {
		table *Table
		index int
	}{
		{New(), 0}, {New(), -1}, {New(), 1}, {of(1, 10), 1}, {of(1, 10), -1}, {of(1, 10), 10}, {of(1, 10, 2, 20), 2}, {of(1, 10, 2, 20), -2}, {of(1, 10, 2, 20), 3},
		{of(1, 10), math.MinInt}, {of(1, 10), math.MaxInt}, {of(1, 10), 1 << 32}, {of(1, 10), -1 << 32}, {many(500), 500}, {many(500), 501}, {many(500), -500},
	} {
		if k, v, err := c.table.At(c.index); k != 0 || v != 0 || err != api.ErrNone {
			t.Errorf("At %d of %d rows: %d, %d, error %d", c.index, c.table.Len(), k, v, err)
		}
	}
}

// P6.2: 499, 500 and 501 rows.
func TestFull(t *testing.T) {
	x := many(499)
	is(t, "Put the 500th", x.Put(-7, 70), api.OK)
	kept := x.Rows()
	for _, key := range []int{500, -1, math.MinInt, math.MaxInt} {
		is(t, "Put the 501st", x.Put(key, 1), api.ErrFull)
		lacking(t, x, key)
	}
	if !slices.Equal(x.Rows(), kept) || x.Len() != 500 {
		t.Errorf("changed to %v", x.Rows())
	}
	is(t, "Put 0", x.Put(0, 5), api.OK)
	is(t, "Put -7", x.Put(-7, 71), api.OK)
	takes(t, x, 250, 250)
	is(t, "Put in its stead", x.Put(1000, 1), api.OK)
	is(t, "Put one more", x.Put(1001, 1), api.ErrFull)
	shifts(t, x, 0, 5)
	is(t, "Put after a Shift", x.Put(1001, 1), api.OK)
	is(t, "Put one more", x.Put(0, 1), api.ErrFull)
	var want []int
	for i := 1; i < 499; i++ {
		if i != 250 {
			want = append(want, i, i)
		}
	}
	shows(t, x, append(want, -7, 71, 1000, 1, 1001, 1)...)
}

// P6.2: many more rows put in, one after the other, than a table may have at a time.
func TestManyPuts(t *testing.T) {
	x := New()
	for i := range 2000 {
		is(t, "Put", x.Put(i, -i), api.OK)
		if i >= 3 {
			shifts(t, x, i-3, 3-i)
		}
	}
	shows(t, x, 1997, -1997, 1998, -1998, 1999, -1999)
}

// P6.2, P6.3, P6.4, R7: tables that are nil, or not made by New.
func TestNone(t *testing.T) {
	for i, x := range nones() {
		for range 2 {
			for _, n := range edges {
				none(t, x, n)
			}
			x.Freeze()
			x.Strict(true)
			if x.Frozen() {
				t.Errorf("none %d: frozen", i)
			}
			x.Strict(false)
		}
	}
}

// none calls each function of a table that is none with a number.
func none(t *testing.T, x *Table, n int) {
	t.Helper()
	is(t, "Put", x.Put(n, n), api.ErrArg)
	is(t, "Stop", x.Stop(n), api.ErrArg)
	for _, pairs := range [][][2]int{nil, {}, {{n, n}}, {{1, 2}, {2, n}}, {{n, 1}, {n, 2}}, pairsFrom(500, n), pairsFrom(501, n)} {
		is(t, "Rekey", x.Rekey(pairs), api.ErrArg)
	}
	for _, o := range append(nones(), x, New(), of(1, n), many(500)) {
		is(t, "Merge", x.Merge(o), api.ErrArg)
		if Same(x, o) != (o.Len() == 0) || Same(o, x) != (o.Len() == 0) {
			t.Errorf("the same as %v: %t, %t", o.Rows(), Same(x, o), Same(o, x))
		}
	}
	for what, f := range map[string]func() (int, api.Errno){
		"Get": func() (int, api.Errno) { return x.Get(n) }, "Delete": func() (int, api.Errno) { return x.Delete(n) }, "Where": func() (int, api.Errno) { return x.Where(n) }, "Walk": x.Walk,
	} {
		if m, err := f(); m != 0 || err != api.ErrArg {
			t.Errorf("%s of none: %d, error %d", what, m, err)
		}
	}
	for what, f := range map[string]func() (int, int, api.Errno){
		"First": x.First, "Shift": x.Shift, "At": func() (int, int, api.Errno) { return x.At(n) }, "Next": func() (int, int, api.Errno) { return x.Next(n) },
	} {
		if k, v, err := f(); k != 0 || v != 0 || err != api.ErrArg {
			t.Errorf("%s of none: %d, %d, error %d", what, k, v, err)
		}
	}
	if x.Len() != 0 || len(x.Rows()) != 0 || x.Copy() != nil || x.Frozen() {
		t.Errorf("none has rows %v, a copy %v, frozen %t", x.Rows(), x.Copy(), x.Frozen())
	}
}

// R5, R7a: rows are new memory.
func TestRowsKeepNothing(t *testing.T) {
	x := of(1, 10, 2, 20)
	first, second := x.Rows(), x.Rows()
	first[0] = [2]int{7, 7}
	_ = append(first[:1], [2]int{8, 8})
	shows(t, x, 1, 10, 2, 20)
	x.Put(1, 11)
	x.Delete(2)
	if !slices.Equal(second, [][2]int{{1, 10}, {2, 20}}) {
		t.Errorf("rows changed to %v", second)
	}
}
