package clock

import (
	"cabochon/api"
	"math"
	"slices"
	"testing"
)

const (
	least    = -100000000000
	greatest = 100000000000
)

func zone(offset int, changes ...Change) Zone {
	return Zone{Offset: offset, Changes: changes}
}

// rising returns so many changes, each a second behind the one ahead of it.
func rising(count, from int) []Change {
	var list []Change
	for i := range count {
		list = append(list, Change{from + i, i})
	}
	return list
}

// P5.3
func TestZones(t *testing.T) {
	for _, z := range []Zone{
		{}, {Changes: []Change{}}, zone(86400), zone(-86400), zone(1), zone(-86399), zone(0, Change{0, 0}), zone(0, Change{5, 86400}), zone(86400, Change{5, -86400}), zone(0, Change{5, 0}, Change{6, 0}),
		zone(0, Change{least, 1}), zone(0, Change{greatest, 1}), zone(0, Change{least, 1}, Change{greatest, 2}), zone(0, Change{greatest - 1, 1}, Change{greatest, 2}), zone(0, Change{least, 1}, Change{least + 1, 2}), zone(3600, Change{-1, 0}, Change{0, 3600}, Change{1, 0}),
		zone(0, rising(39, 7)...), zone(0, rising(40, 7)...), zone(0, rising(40, least)...), zone(0, rising(40, greatest-39)...),
	} {
		if err := Check(z); err != api.OK {
			t.Errorf("%v: error %d", z, err)
		}
	}
	for _, z := range []Zone{
		zone(86401), zone(-86401), zone(100000), zone(0, Change{5, 86401}), zone(0, Change{5, -86401}), zone(0, Change{5, 0}, Change{6, 86401}), zone(86401, Change{5, 0}), zone(-86401, Change{5, 0}, Change{6, 0}), zone(0, Change{5, 86401}, Change{6, 0}),
		zone(0, Change{least - 1, 0}), zone(0, Change{greatest + 1, 0}), zone(0, Change{least - 1, 0}, Change{5, 0}), zone(0, Change{5, 0}, Change{greatest + 1, 0}),
		zone(0, Change{5, 0}, Change{5, 0}), zone(0, Change{5, 1}, Change{5, 2}), zone(0, Change{5, 0}, Change{4, 0}), zone(0, Change{-5, 0}, Change{-6, 0}), zone(0, Change{5, 0}, Change{6, 1}, Change{6, 2}), zone(0, Change{5, 0}, Change{7, 1}, Change{6, 2}), zone(0, Change{5, 0}, Change{7, 1}, Change{5, 2}), zone(0, Change{least, 0}, Change{least, 1}), zone(0, Change{greatest, 0}, Change{greatest, 1}), zone(0, Change{1, 0}, Change{least, 1}),
		zone(0, rising(41, 7)...), zone(0, rising(42, 7)...), zone(0, rising(1000, 7)...), zone(0, append(rising(39, 7), Change{45, 0})...), zone(0, append(rising(40, 7), Change{46, 0})...),
	} {
		notZone(t, z)
	}
	for _, n := range []int{math.MinInt, math.MinInt + 1, math.MaxInt, math.MaxInt - 1, 1 << 32, -1 << 32} {
		notZone(t, zone(n))
		notZone(t, zone(0, Change{0, n}))
	}
	for _, n := range []int{math.MinInt, math.MinInt + 1, math.MaxInt, math.MaxInt - 1, 1 << 62} {
		notZone(t, zone(0, Change{n, 0}))
		notZone(t, zone(0, Change{0, 0}, Change{n, 0}))
		notZone(t, zone(0, Change{n, 0}, Change{0, 0}))
	}
}

// notZone calls each function of zones with what is none. The other arguments would be errors, too.
func notZone(t *testing.T, z Zone) {
	t.Helper()
	if err := Check(z); err != api.ErrArg {
		t.Errorf("%v: error %d", z, err)
	}
	for _, moment := range []int{0, 5, least, greatest, least - 1, greatest + 1, math.MinInt, math.MaxInt} {
		if n, err := Offset(z, moment); n != 0 || err != api.ErrArg {
			t.Errorf("Offset of %v, %d: %d, error %d", z, moment, n, err)
		}
		if d, err := Local(z, moment); d != (Date{}) || err != api.ErrArg {
			t.Errorf("Local of %v, %d: %v, error %d", z, moment, d, err)
		}
	}
	for _, d := range []Date{on(1970, 1, 1), leastDate, greatestDate, {}, on(2023, 2, 29)} {
		if l, err := Moments(z, d); len(l) != 0 || err != api.ErrArg {
			t.Errorf("Moments of %v, %v: %v, error %d", z, d, l, err)
		}
		if n, err := Resolve(z, d); n != 0 || err != api.ErrArg {
			t.Errorf("Resolve of %v, %v: %d, error %d", z, d, n, err)
		}
	}
}

// P5.3
func TestOffset(t *testing.T) {
	three := zone(10, Change{-100, 20}, Change{0, -30}, Change{1, 40})
	for _, c := range []struct {
		zone         Zone
		moment, want int
	}{
		{Zone{}, 0, 0}, {Zone{}, least, 0}, {Zone{}, greatest, 0}, {zone(-86400), 5, -86400}, {zone(86400), greatest, 86400}, {zone(86400), least, 86400},
		{three, least, 10}, {three, -101, 10}, {three, -100, 20}, {three, -99, 20}, {three, -1, 20}, {three, 0, -30}, {three, 1, 40}, {three, 2, 40}, {three, greatest, 40},
		{zone(1, Change{least, 2}), least, 2}, {zone(1, Change{least, 2}), 0, 2}, {zone(1, Change{least + 1, 2}), least, 1}, {zone(1, Change{greatest, 2}), greatest, 2}, {zone(1, Change{greatest, 2}), greatest - 1, 1},
		{zone(7, rising(40, 100)...), 99, 7}, {zone(7, rising(40, 100)...), 100, 0}, {zone(7, rising(40, 100)...), 138, 38}, {zone(7, rising(40, 100)...), 139, 39}, {zone(7, rising(40, 100)...), 1000, 39},
	} {
		if n, err := Offset(c.zone, c.moment); n != c.want || err != api.OK {
			t.Errorf("%v, %d: %d (error %d), not %d", c.zone, c.moment, n, err, c.want)
		}
	}
	for _, z := range []Zone{{}, three, zone(86400), zone(-86400), zone(0, Change{least, 5}, Change{greatest, -5})} {
		for _, moment := range []int{least - 1, greatest + 1, least - 86400, greatest + 86400, math.MinInt, math.MinInt + 1, math.MaxInt, math.MaxInt - 1} {
			if n, err := Offset(z, moment); n != 0 || err != api.ErrRange {
				t.Errorf("Offset of %v, %d: %d, error %d", z, moment, n, err)
			}
			if d, err := Local(z, moment); d != (Date{}) || err != api.ErrRange {
				t.Errorf("Local of %v, %d: %v, error %d", z, moment, d, err)
			}
		}
	}
}

// P5.3: also local dates that without their offset would have no moment.
func TestLocal(t *testing.T) {
	summer := zone(3600, Change{100000, 7200}, Change{200000, 3600})
	for _, c := range []struct {
		zone   Zone
		moment int
		want   Date
	}{
		{Zone{}, 0, on(1970, 1, 1)}, {zone(3600), 0, at(1970, 1, 1, 1, 0, 0)}, {zone(-3600), 0, at(1969, 12, 31, 23, 0, 0)}, {zone(86400), 0, on(1970, 1, 2)}, {zone(-86400), 0, on(1969, 12, 31)}, {zone(-1), 0, at(1969, 12, 31, 23, 59, 59)},
		{summer, 99999, at(1970, 1, 2, 4, 46, 39)}, {summer, 100000, at(1970, 1, 2, 5, 46, 40)}, {summer, 199999, at(1970, 1, 3, 9, 33, 19)}, {summer, 200000, at(1970, 1, 3, 8, 33, 20)},
		{Zone{}, least, firstDate}, {Zone{}, greatest, lastDate}, {zone(86400), greatest, at(5138, 11, 17, 9, 46, 40)}, {zone(-86400), least, at(-1199, 2, 14, 14, 13, 20)}, {zone(1), greatest, at(5138, 11, 16, 9, 46, 41)}, {zone(-1), least, at(-1199, 2, 15, 14, 13, 19)}, {zone(86400), least, at(-1199, 2, 16, 14, 13, 20)},
		{zone(0, Change{greatest, 86400}), greatest, at(5138, 11, 17, 9, 46, 40)}, {zone(0, Change{greatest, 86400}), greatest - 1, at(5138, 11, 16, 9, 46, 39)},
	} {
		if d, err := Local(c.zone, c.moment); d != c.want || err != api.OK {
			t.Errorf("%v, %d: %v (error %d), not %v", c.zone, c.moment, d, err, c.want)
		}
	}
}

// told calls Moments and Resolve with the date that is so many seconds behind 1970.
func told(t *testing.T, z Zone, local int, moments []int, resolved int, want api.Errno) {
	t.Helper()
	d := dateAt(local)
	kept := slices.Clone(z.Changes)
	if l, err := Moments(z, d); !slices.Equal(l, moments) || err != api.OK {
		t.Errorf("Moments of %v, %v (%d): %v (error %d), not %v", z, d, local, l, err, moments)
	}
	if n, err := Resolve(z, d); n != resolved || err != want {
		t.Errorf("Resolve of %v, %v (%d): %d (error %d), not %d (error %d)", z, d, local, n, err, resolved, want)
	}
	if !slices.Equal(z.Changes, kept) {
		t.Errorf("%v changed", kept)
	}
}

// P5.3: dates with one moment, with none and with several.
func TestGapsAndDoubled(t *testing.T) {
	one := func(z Zone, local, moment int) {
		t.Helper()
		told(t, z, local, []int{moment}, moment, api.OK)
	}
	gap := func(z Zone, local, moment int) {
		t.Helper()
		told(t, z, local, nil, moment, api.OK)
	}
	more := func(z Zone, local int, moments ...int) {
		t.Helper()
		told(t, z, local, moments, moments[0], api.OK)
	}
	one(Zone{}, 0, 0)
	one(Zone{}, -5, -5)
	one(zone(86400), 0, -86400)
	one(zone(-86400), 0, 86400)
	still := zone(10, Change{100, 10}) // a change that changes nothing
	one(still, 109, 99)
	one(still, 110, 100)
	one(still, 111, 101)

	forth := zone(10, Change{100, 30}) // the gap goes from 110 to 129
	one(forth, 109, 99)
	gap(forth, 110, 100)
	gap(forth, 111, 101)
	gap(forth, 129, 119)
	one(forth, 130, 100)
	one(forth, 131, 101)

	back := zone(30, Change{100, 10}) // from 110 to 129 is doubled
	one(back, 109, 79)
	more(back, 110, 80, 100)
	more(back, 129, 99, 119)
	one(back, 130, 120)

	below := zone(-30, Change{-100, -10}) // the gap goes from -130 to -111
	one(below, -131, -101)
	gap(below, -130, -100)
	gap(below, -111, -81)
	one(below, -110, -100)

	both := zone(0, Change{100, 50}, Change{200, 0}) // a gap from 100 to 149, doubled from 200 to 249
	one(both, 99, 99)
	gap(both, 100, 100)
	gap(both, 149, 149)
	one(both, 150, 100)
	one(both, 199, 149)
	more(both, 200, 150, 200)
	more(both, 249, 199, 249)
	one(both, 250, 250)

	third := zone(0, Change{100, -50}, Change{120, -100}) // dates that stand for three moments
	one(third, 19, 19)
	more(third, 20, 20, 120)
	more(third, 49, 49, 149)
	more(third, 50, 50, 100, 150)
	more(third, 69, 69, 119, 169)
	more(third, 70, 70, 170)
	more(third, 99, 99, 199)
	one(third, 100, 200)
}

// P5.3: gaps into which other changes fall, and several changes in one gap.
func TestGapsThatOverlap(t *testing.T) {
	rise := zone(0, Change{100, 50}, Change{110, 80}) // gaps from 100 to 149 and from 160 to 189
	told(t, rise, 149, nil, 149, api.OK)
	told(t, rise, 150, []int{100}, 100, api.OK)
	told(t, rise, 159, []int{109}, 109, api.OK)
	told(t, rise, 160, nil, 110, api.OK)
	told(t, rise, 189, nil, 139, api.OK)
	told(t, rise, 190, []int{110}, 110, api.OK)

	next := zone(0, Change{100, 50}, Change{101, 80}) // from 100 to 149 and from 151 to 180
	told(t, next, 150, []int{100}, 100, api.OK)
	told(t, next, 151, nil, 101, api.OK)
	told(t, next, 180, nil, 130, api.OK)
	told(t, next, 181, []int{101}, 101, api.OK)

	filled := zone(0, Change{100, 50}, Change{110, 0}) // the gap from 100 to 149 is filled from 110 on
	told(t, filled, 99, []int{99}, 99, api.OK)
	told(t, filled, 100, nil, 100, api.OK)
	told(t, filled, 109, nil, 109, api.OK)
	told(t, filled, 110, []int{110}, 110, api.OK)
	told(t, filled, 149, []int{149}, 149, api.OK)
	told(t, filled, 150, []int{100, 150}, 100, api.OK)
	told(t, filled, 159, []int{109, 159}, 109, api.OK)
	told(t, filled, 160, []int{160}, 160, api.OK)

	twice := zone(0, Change{100, 50}, Change{110, -20}, Change{115, 60}) // from 100 to 149, and from 95 to 174
	told(t, twice, 89, []int{89}, 89, api.OK)
	told(t, twice, 90, []int{90, 110}, 90, api.OK)
	told(t, twice, 95, []int{95}, 95, api.OK)
	told(t, twice, 99, []int{99}, 99, api.OK)
	told(t, twice, 100, nil, 100, api.OK) // in both gaps: the first change counts
	told(t, twice, 149, nil, 149, api.OK)
	told(t, twice, 150, []int{100}, 100, api.OK)
	told(t, twice, 159, []int{109}, 109, api.OK)
	told(t, twice, 160, nil, 180, api.OK) // in the second gap alone
	told(t, twice, 174, nil, 194, api.OK)
	told(t, twice, 175, []int{115}, 115, api.OK)

	long := zone(-86400, Change{0, 86400}) // two days are passed over
	told(t, long, -86401, []int{-1}, -1, api.OK)
	told(t, long, -86400, nil, 0, api.OK)
	told(t, long, 86399, nil, 172799, api.OK)
	told(t, long, 86400, []int{0}, 0, api.OK)

	turned := zone(0, append(rising(38, 100), Change{200, -86400}, Change{201, 86400})...)
	told(t, turned, 236, []int{199}, 199, api.OK)
	told(t, turned, 237, nil, 86637, api.OK)
	told(t, turned, -86200, []int{-86200, 200}, -86200, api.OK)
	told(t, turned, 86601, []int{201}, 201, api.OK)
}

// P5.3: dates whose moments are out of range, and changes at the first and the last moment.
func TestEndsOfTime(t *testing.T) {
	for _, offset := range []int{0, 1, -1, 3600, 86400, -86400} {
		z := zone(offset)
		told(t, z, least+offset-1, nil, 0, api.ErrRange)
		told(t, z, least+offset, []int{least}, least, api.OK)
		told(t, z, greatest+offset, []int{greatest}, greatest, api.OK)
		told(t, z, greatest+offset+1, nil, 0, api.ErrRange)
		for _, d := range []Date{leastDate, greatestDate, on(-1999, 1, 1), on(5999, 1, 1)} {
			told(t, z, secondsTo(d), nil, 0, api.ErrRange)
		}
	}
	early := zone(0, Change{least, 50})
	told(t, early, least-1, nil, 0, api.ErrRange)
	told(t, early, least, nil, least, api.OK) // in the gap
	told(t, early, least+49, nil, least+49, api.OK)
	told(t, early, least+50, []int{least}, least, api.OK)
	soon := zone(50, Change{least, 0}) // nothing is doubled, as there is no moment ahead of the change
	told(t, soon, least-1, nil, 0, api.ErrRange)
	told(t, soon, least, []int{least}, least, api.OK)
	told(t, soon, least+50, []int{least + 50}, least+50, api.OK)
	late := zone(0, Change{greatest, 50})
	told(t, late, greatest-1, []int{greatest - 1}, greatest-1, api.OK)
	told(t, late, greatest, nil, greatest, api.OK) // in the gap
	told(t, late, greatest+1, nil, 0, api.ErrRange)
	told(t, late, greatest+49, nil, 0, api.ErrRange)
	told(t, late, greatest+50, []int{greatest}, greatest, api.OK)
	told(t, late, greatest+51, nil, 0, api.ErrRange)
	last := zone(0, Change{greatest - 10, 50}) // the gap's moments end within it
	told(t, last, greatest-10, nil, greatest-10, api.OK)
	told(t, last, greatest, nil, greatest, api.OK)
	told(t, last, greatest+1, nil, 0, api.ErrRange)
	told(t, last, greatest+39, nil, 0, api.ErrRange)
	told(t, last, greatest+40, []int{greatest - 10}, greatest-10, api.OK)
	gone := zone(50, Change{greatest, 0})
	told(t, gone, greatest, []int{greatest - 50, greatest}, greatest-50, api.OK)
	told(t, gone, greatest+1, []int{greatest - 49}, greatest-49, api.OK)
	told(t, gone, greatest+49, []int{greatest - 1}, greatest-1, api.OK)
	told(t, gone, greatest+50, nil, 0, api.ErrRange)
}

// R5: changes are read up to their length alone, and a result is new memory.
func TestZonesKeepNothing(t *testing.T) {
	all := append(rising(40, 0), Change{-5, 100000})
	z := zone(0, all[:40]...)
	if err := Check(Zone{Changes: all[:40]}); err != api.OK {
		t.Errorf("error %d", err)
	}
	local := dateAt(50) // each second of these changes tells two
	first, _ := Moments(z, local)
	first[0] = 7
	if l, err := Moments(z, local); !slices.Equal(l, []int{25}) || err != api.OK {
		t.Errorf("%v, error %d", l, err)
	}
}
