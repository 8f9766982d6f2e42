package table

import (
	"cabochon/api"
	"testing"
)

// state says what a table is at the start of a try: frozen, strict with a walk, full.
type state struct {
	frozen, strict, full bool
}

// make returns a table with the keys 1 and 2, and, if it is full, others from 1000 on.
func (s state) make(t *testing.T) *Table {
	t.Helper()
	x := of(1, 10, 2, 20)
	for i := 0; s.full && i < 498; i++ {
		x.Put(1000+i, i)
	}
	if s.strict {
		x.Strict(true)
		begins(t, x, 0)
	}
	if s.frozen {
		x.Freeze()
	}
	return x
}

func states() []state {
	var list []state
	for i := range 8 {
		list = append(list, state{i&1 > 0, i&2 > 0, i&4 > 0})
	}
	return list
}

// first returns the first of the errors that applies.
func first(errs ...api.Errno) api.Errno {
	for _, err := range errs {
		if err != api.OK {
			return err
		}
	}
	return api.OK
}

// given returns an error if it applies.
func given(applies bool, err api.Errno) api.Errno {
	if applies {
		return err
	}
	return api.OK
}

// apart returns a table of 500 rows, with the key 1, but not 2.
func apart() *Table {
	x := many(500)
	x.Delete(2)
	x.Put(-1, 1)
	return x
}

// P6.1: several errors at once.
func TestOrderOfErrors(t *testing.T) {
	for _, s := range states() {
		frozen, closed, full := given(s.frozen, api.ErrFrozen), given(s.strict, api.ErrState), given(s.full, api.ErrFull)
		for what, c := range map[string]struct {
			call func(*Table) api.Errno
			want api.Errno
		}{
			"Put of a new key":                {func(x *Table) api.Errno { return x.Put(3, 30) }, first(frozen, closed, full)},
			"Put of a key":                    {func(x *Table) api.Errno { return x.Put(1, 11) }, frozen},
			"Merge of new keys":               {func(x *Table) api.Errno { return x.Merge(of(1, 11, 3, 30)) }, first(frozen, closed, full)},
			"Merge to 500":                    {func(x *Table) api.Errno { return x.Merge(many(500)) }, first(frozen, closed, full)},
			"Merge to 501":                    {func(x *Table) api.Errno { return x.Merge(apart()) }, first(frozen, closed, api.ErrFull)},
			"Merge of keys":                   {func(x *Table) api.Errno { return x.Merge(of(1, 11)) }, frozen},
			"Merge of nil":                    {func(x *Table) api.Errno { return x.Merge(nil) }, frozen},
			"Rekey of a key twice":            {func(x *Table) api.Errno { return x.Rekey([][2]int{{1, 3}, {1, 4}}) }, api.ErrArg},
			"Rekey of none twice":             {func(x *Table) api.Errno { return x.Rekey([][2]int{{9, 3}, {1, 7}, {9, 4}}) }, api.ErrArg},
			"Rekey of 501":                    {func(x *Table) api.Errno { return x.Rekey(pairsFrom(501, 5)) }, api.ErrArg},
			"Rekey of none":                   {func(x *Table) api.Errno { return x.Rekey([][2]int{{9, 8}}) }, first(frozen, api.ErrNone)},
			"Rekey to a new key, and of none": {func(x *Table) api.Errno { return x.Rekey([][2]int{{9, 8}, {1, 7}}) }, first(frozen, closed, api.ErrNone)},
			"Rekey to a new key":              {func(x *Table) api.Errno { return x.Rekey([][2]int{{1, 7}}) }, first(frozen, closed)},
			"Rekey":                           {func(x *Table) api.Errno { return x.Rekey([][2]int{{1, 2}, {2, 1}}) }, frozen},
			"Delete of none":                  {func(x *Table) api.Errno { _, err := x.Delete(9); return err }, first(frozen, api.ErrNone)},
			"Delete":                          {func(x *Table) api.Errno { _, err := x.Delete(1); return err }, frozen},
			"Shift":                           {func(x *Table) api.Errno { _, _, err := x.Shift(); return err }, frozen},
			"Get of none":                     {func(x *Table) api.Errno { _, err := x.Get(9); return err }, api.ErrNone},
			"Next of no walk":                 {func(x *Table) api.Errno { _, _, err := x.Next(7); return err }, api.ErrArg},
			"Stop of no walk":                 {func(x *Table) api.Errno { return x.Stop(7) }, api.ErrArg},
			"Walk":                            {func(x *Table) api.Errno { _, err := x.Walk(); return err }, api.OK},
		} {
			x := s.make(t)
			kept := x.Copy()
			err := c.call(x)
			if err != c.want {
				t.Errorf("%s, %+v: error %d, not %d", what, s, err, c.want)
			}
			if err != api.OK && !Same(x, kept) { // R4
				t.Errorf("%s, %+v: rows %v", what, s, x.Rows())
			}
			if x.Frozen() != s.frozen {
				t.Errorf("%s, %+v: frozen %t", what, s, x.Frozen())
			}
		}
	}
}

// P6.1: a table from which nothing can be taken.
func TestOrderOfErrorsWhenEmpty(t *testing.T) {
	x := New()
	x.Strict(true)
	walk := begins(t, x, 0)
	for range 2 {
		want := given(x.Frozen(), api.ErrFrozen)
		_, _, err := x.Shift()
		is(t, "Shift", err, first(want, api.ErrNone))
		_, err = x.Delete(1)
		is(t, "Delete", err, first(want, api.ErrNone))
		is(t, "Rekey", x.Rekey([][2]int{{1, 2}}), first(want, api.ErrNone))
		is(t, "Rekey twice", x.Rekey([][2]int{{1, 2}, {1, 2}}), api.ErrArg)
		_, _, err = x.First()
		is(t, "First", err, api.ErrNone)
		_, _, err = x.At(0)
		is(t, "At", err, api.ErrNone)
		x.Freeze()
	}
	ends(t, x, walk)
}

// R4: a call that returns an error leaves walks where they are.
func TestErrorsMoveNoWalk(t *testing.T) {
	x := of(1, 10, 2, 20, 3, 30)
	a := begins(t, x, 0)
	meets(t, x, a, 1)
	x.Strict(true)
	for _, err := range []api.Errno{x.Put(4, 40), x.Merge(of(2, 22, 4, 40)), x.Rekey([][2]int{{3, 2}, {2, 9}}), x.Rekey([][2]int{{3, 2}, {8, 9}}), x.Rekey([][2]int{{2, 3}, {2, 1}}), x.Stop(9)} {
		if err == api.OK {
			t.Error("no error")
		}
	}
	meets(t, x, a, 2)
	x.Freeze()
	x.Shift()
	x.Delete(3)
	x.Merge(of(3, 33))
	ends(t, x, a, 3)
}
