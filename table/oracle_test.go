package table

import (
	"cabochon/api"
	"math/rand"
	"slices"
	"testing"
)

// slot is a row that was put in once. It stays when its row is taken out.
type slot struct {
	key, value int
	gone       bool
}

// model is a second reading of the chapter: a list of all that was ever put in, along which walks go.
type model struct {
	slots          []*slot
	walks          []int // how many slots a walk is past, or over
	frozen, strict bool
}

const over = -1

func (m *model) find(key int) *slot {
	for _, s := range m.slots {
		if s.key == key && !s.gone {
			return s
		}
	}
	return nil
}

func (m *model) rows() [][2]int {
	var list [][2]int
	for _, s := range m.slots {
		if !s.gone {
			list = append(list, [2]int{s.key, s.value})
		}
	}
	return list
}

func (m *model) onWalks() int {
	count := 0
	for _, place := range m.walks {
		if place != over {
			count++
		}
	}
	return count
}

func (m *model) put(key, value int) api.Errno {
	s := m.find(key)
	switch {
	case m.frozen:
		return api.ErrFrozen
	case s != nil:
		s.value = value
		return api.OK
	case m.strict && m.onWalks() > 0:
		return api.ErrState
	case len(m.rows()) == 500:
		return api.ErrFull
	}
	m.slots = append(m.slots, &slot{key: key, value: value})
	return api.OK
}

func (m *model) take(key int) (int, api.Errno) {
	s := m.find(key)
	switch {
	case m.frozen:
		return 0, api.ErrFrozen
	case s == nil:
		return 0, api.ErrNone
	}
	s.gone = true
	return s.value, api.OK
}

func (m *model) shift() (int, int, api.Errno) {
	for _, s := range m.slots {
		if !s.gone {
			value, err := m.take(s.key)
			return rowOr(s.key, value, err)
		}
	}
	return 0, 0, first(given(m.frozen, api.ErrFrozen), api.ErrNone)
}

// rowOr returns a row, or zeros with an error.
func rowOr(key, value int, err api.Errno) (int, int, api.Errno) {
	if err != api.OK {
		return 0, 0, err
	}
	return key, value, err
}

func (m *model) walk() (int, api.Errno) {
	if m.onWalks() == 20 {
		return 0, api.ErrFull
	}
	m.walks = append(m.walks, 0)
	return len(m.walks) - 1, api.OK
}

func (m *model) isOn(walk int) bool {
	return walk >= 0 && walk < len(m.walks) && m.walks[walk] != over
}

func (m *model) next(walk int) (int, int, api.Errno) {
	if !m.isOn(walk) {
		return 0, 0, api.ErrArg
	}
	for i := m.walks[walk]; i < len(m.slots); i++ {
		if s := m.slots[i]; !s.gone {
			m.walks[walk] = i + 1
			return s.key, s.value, api.OK
		}
	}
	m.walks[walk] = over
	return 0, 0, api.ErrEnd
}

func (m *model) stop(walk int) api.Errno {
	if !m.isOn(walk) {
		return api.ErrArg
	}
	m.walks[walk] = over
	return api.OK
}

// rekey goes over the keys that rows come to, one after the other.
func (m *model) rekey(pairs [][2]int) api.Errno {
	for i, a := range pairs {
		for _, b := range pairs[:i] {
			if a[0] == b[0] {
				return api.ErrArg
			}
		}
	}
	if m.frozen {
		return api.ErrFrozen
	}
	groups := map[int][]*slot{}
	for _, s := range m.slots {
		key := s.key
		for _, pair := range pairs {
			if pair[0] == s.key {
				key = pair[1]
			}
		}
		if !s.gone {
			groups[key] = append(groups[key], s)
		}
	}
	for key := range groups {
		if m.strict && m.onWalks() > 0 && m.find(key) == nil {
			return api.ErrState
		}
	}
	for _, pair := range pairs {
		if m.find(pair[0]) == nil {
			return api.ErrNone
		}
	}
	for key, group := range groups {
		for _, s := range group[1:] {
			s.gone = true
		}
		group[0].key, group[0].value = key, group[len(group)-1].value
	}
	return api.OK
}

// merge tries on a copy first.
func (m *model) merge(rows [][2]int) api.Errno {
	trial := model{walks: m.walks, frozen: m.frozen, strict: m.strict}
	for _, r := range m.rows() {
		trial.slots = append(trial.slots, &slot{key: r[0], value: r[1]})
	}
	full := false
	for _, r := range rows {
		switch err := trial.put(r[0], r[1]); err {
		case api.ErrFull:
			full = true
		case api.OK:
		default:
			return err
		}
	}
	if full {
		return api.ErrFull
	}
	for _, r := range rows {
		m.put(r[0], r[1])
	}
	return given(m.frozen, api.ErrFrozen)
}

// play does one thing at random to both, and compares what they tell.
func play(t *testing.T, random *rand.Rand, x *Table, m *model, keys int) {
	t.Helper()
	key, value, walk := random.Intn(keys), random.Intn(100), len(m.walks)-random.Intn(6)
	what := random.Intn(100)
	k, v, n := 0, 0, 0
	var got, want api.Errno
	wantKey, wantValue, wantNumber := 0, 0, 0
	switch {
	case what < 25:
		got, want = x.Put(key, value), m.put(key, value)
	case what < 35:
		v, got = x.Delete(key)
		wantValue, want = m.take(key)
	case what < 40:
		k, v, got = x.Shift()
		wantKey, wantValue, want = m.shift()
	case what < 48:
		n, got = x.Walk()
		wantNumber, want = m.walk()
	case what < 80:
		k, v, got = x.Next(walk)
		wantKey, wantValue, want = m.next(walk)
	case what < 83:
		got, want = x.Stop(walk), m.stop(walk)
	case what < 87:
		m.strict = random.Intn(3) == 0
		x.Strict(m.strict)
	case what < 95:
		var pairs [][2]int
		for range random.Intn(4) {
			pairs = append(pairs, [2]int{random.Intn(keys), random.Intn(keys)})
		}
		got, want = x.Rekey(pairs), m.rekey(pairs)
	default:
		o := New()
		for range random.Intn(4) {
			o.Put(random.Intn(keys), random.Intn(100))
		}
		got, want = x.Merge(o), m.merge(o.Rows())
	}
	if k != wantKey || v != wantValue || n != wantNumber || got != want {
		t.Fatalf("thing %d (key %d, walk %d): %d, %d, %d (error %d), not %d, %d, %d (error %d)", what, key, walk, k, v, n, got, wantKey, wantValue, wantNumber, want)
	}
	if !slices.Equal(x.Rows(), m.rows()) {
		t.Fatalf("thing %d (key %d): %v, not %v", what, key, x.Rows(), m.rows())
	}
}

// P6.1 to P6.5: random changes and walks, held against a second reading.
func TestRandomChanges(t *testing.T) {
	random := rand.New(rand.NewSource(6))
	for range 1000 {
		x, m := New(), &model{}
		keys := 1 + random.Intn(12)
		for range 150 {
			play(t, random, x, m, keys)
		}
		y := x.Copy()
		shows(t, y, slices.Concat(flat(m.rows())...)...)
		x.Freeze()
		m.frozen = true
		for range 50 {
			play(t, random, x, m, keys)
		}
	}
}

// P6.1 to P6.5: the same with tables that are full now and then.
func TestRandomChangesOfManyRows(t *testing.T) {
	random := rand.New(rand.NewSource(66))
	for _, count := range []int{490, 495, 500} {
		x, m := many(count), &model{}
		for i := range count {
			m.put(i, i)
		}
		for range 1000 {
			play(t, random, x, m, 510)
			if random.Intn(2) == 0 { // more is put in than taken out
				key := random.Intn(510)
				if got, want := x.Put(key, 1), m.put(key, 1); got != want {
					t.Fatalf("Put: error %d, not %d", got, want)
				}
			}
		}
	}
}

// P6.5: rows stand in the order of their last putting in, and walks meet each of them once.
func TestOrderOfPuttingIn(t *testing.T) {
	random := rand.New(rand.NewSource(5))
	for range 200 {
		x := New()
		walk := begins(t, x, 0)
		var order, met []int // the keys that were put in, and how often
		for range 100 {
			key := random.Intn(20)
			switch random.Intn(3) {
			case 0:
				if x.lacks(key) {
					order = append(order, key)
				}
				x.Put(key, 0)
			case 1:
				x.Delete(key)
				order = slices.DeleteFunc(order, func(k int) bool { return k == key })
				met = slices.DeleteFunc(met, func(k int) bool { return k == key })
			default:
				if k, _, err := x.Next(walk); err == api.OK {
					if slices.Contains(met, k) {
						t.Fatalf("key %d is met twice", k)
					}
					met = append(met, k)
				} else if walk++; len(met) != len(order) {
					t.Fatalf("met %v of %v", met, order)
				} else {
					met = nil
					begins(t, x, walk)
				}
			}
		}
		for i, r := range x.Rows() {
			if order[i] != r[0] {
				t.Fatalf("%v, not %v", x.Rows(), order)
			}
		}
		if x.Len() != len(order) {
			t.Fatalf("%v, not %v", x.Rows(), order)
		}
	}
}
