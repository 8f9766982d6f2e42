package clock

import (
	"cabochon/api"
	"math"
	"testing"
)

// P5.2
func TestAddMonths(t *testing.T) {
	for _, c := range []struct {
		date Date
		n    int
		want Date
	}{
		{on(2024, 1, 31), 0, on(2024, 1, 31)}, {on(2024, 1, 31), 1, on(2024, 2, 29)}, {on(2023, 1, 31), 1, on(2023, 2, 28)}, {on(2024, 1, 29), 1, on(2024, 2, 29)}, {on(2024, 1, 30), 1, on(2024, 2, 29)}, {on(2024, 1, 28), 1, on(2024, 2, 28)},
		{on(2024, 1, 31), 2, on(2024, 3, 31)}, {on(2024, 1, 31), 3, on(2024, 4, 30)}, {on(2024, 1, 31), 11, on(2024, 12, 31)}, {on(2024, 1, 31), 12, on(2025, 1, 31)}, {on(2024, 1, 31), 13, on(2025, 2, 28)}, {on(2024, 1, 31), 49, on(2028, 2, 29)},
		{on(2024, 3, 31), -1, on(2024, 2, 29)}, {on(2023, 3, 31), -1, on(2023, 2, 28)}, {on(2024, 1, 31), -1, on(2023, 12, 31)}, {on(2024, 1, 31), -2, on(2023, 11, 30)}, {on(2024, 12, 31), -1, on(2024, 11, 30)}, {on(2024, 12, 31), -10, on(2024, 2, 29)}, {on(2024, 12, 31), -12, on(2023, 12, 31)}, {on(2024, 1, 15), -13, on(2022, 12, 15)},
		{on(2024, 2, 29), 12, on(2025, 2, 28)}, {on(2024, 2, 29), -12, on(2023, 2, 28)}, {on(2024, 2, 29), 48, on(2028, 2, 29)}, {on(2000, 2, 29), 1200, on(2100, 2, 28)}, {on(2000, 2, 29), -1200, on(1900, 2, 28)}, {on(2000, 2, 29), 4800, on(2400, 2, 29)}, {on(2000, 2, 29), -24000, on(0, 2, 29)}, {on(2000, 2, 29), -25200, on(-100, 2, 28)}, {on(0, 2, 29), -12, on(-1, 2, 28)},
		{at(2024, 1, 31, 23, 59, 58), 1, at(2024, 2, 29, 23, 59, 58)}, {at(2024, 5, 15, 1, 2, 3), 7, at(2024, 12, 15, 1, 2, 3)}, {at(2024, 5, 15, 1, 2, 3), 8, at(2025, 1, 15, 1, 2, 3)}, {at(2024, 5, 15, 1, 2, 3), -4, at(2024, 1, 15, 1, 2, 3)}, {at(2024, 5, 15, 1, 2, 3), -5, at(2023, 12, 15, 1, 2, 3)},
		{on(0, 1, 31), -1, on(-1, 12, 31)}, {on(-1, 12, 31), 1, on(0, 1, 31)}, {on(-1, 12, 31), 2, on(0, 2, 29)}, {on(1, 1, 1), -12, on(0, 1, 1)}, {on(1, 1, 1), -13, on(-1, 12, 1)}, {on(-5, 3, 31), -13, on(-6, 2, 28)},
		{leastDate, 0, leastDate}, {leastDate, 96011, on(6000, 12, 1)}, {on(-2000, 1, 31), 96002, on(6000, 3, 31)}, {greatestDate, 0, greatestDate}, {greatestDate, -96011, at(-2000, 1, 31, 23, 59, 59)}, {on(-2000, 2, 1), -1, leastDate}, {on(6000, 11, 30), 1, on(6000, 12, 30)}, // no moments
	} {
		if d, err := AddMonths(c.date, c.n); d != c.want || err != api.OK {
			t.Errorf("%v, %d: %v (error %d), not %v", c.date, c.n, d, err, c.want)
		}
	}
	for _, c := range []struct {
		date Date
		n    int
		want api.Errno
	}{
		{leastDate, -1, api.ErrRange}, {on(-2000, 12, 31), -12, api.ErrRange}, {leastDate, 96012, api.ErrRange}, {greatestDate, 1, api.ErrRange}, {on(6000, 1, 31), 12, api.ErrRange}, {greatestDate, -96012, api.ErrRange},
		{on(2024, 1, 1), 120000, api.ErrRange}, {on(2024, 1, 1), -120000, api.ErrRange}, {on(2024, 1, 1), 119999, api.ErrRange}, {leastDate, 120000, api.ErrRange}, {greatestDate, -120000, api.ErrRange},
		{on(2024, 1, 1), 120001, api.ErrArg}, {on(2024, 1, 1), -120001, api.ErrArg}, {leastDate, 120001, api.ErrArg}, {greatestDate, -120001, api.ErrArg}, {greatestDate, 120001, api.ErrArg},
		{on(2024, 1, 1), math.MaxInt, api.ErrArg}, {on(2024, 1, 1), math.MinInt, api.ErrArg}, {leastDate, math.MinInt, api.ErrArg}, {greatestDate, math.MaxInt, api.ErrArg}, {on(2024, 1, 1), 1<<32 + 1, api.ErrArg},
	} {
		if d, err := AddMonths(c.date, c.n); d != (Date{}) || err != c.want {
			t.Errorf("%v, %d: %v, error %d, not %d", c.date, c.n, d, err, c.want)
		}
	}
}

// P5.2
func TestAddDays(t *testing.T) {
	for _, c := range []struct {
		date Date
		n    int
		want Date
	}{
		{on(2024, 2, 28), 0, on(2024, 2, 28)}, {on(2024, 2, 28), 1, on(2024, 2, 29)}, {on(2024, 2, 28), 2, on(2024, 3, 1)}, {on(2023, 2, 28), 1, on(2023, 3, 1)}, {on(2024, 3, 1), -1, on(2024, 2, 29)}, {on(2023, 3, 1), -1, on(2023, 2, 28)}, {on(1900, 2, 28), 1, on(1900, 3, 1)}, {on(2000, 2, 28), 1, on(2000, 2, 29)},
		{on(2024, 12, 31), 1, on(2025, 1, 1)}, {on(2025, 1, 1), -1, on(2024, 12, 31)}, {on(2024, 1, 1), 366, on(2025, 1, 1)}, {on(2023, 1, 1), 365, on(2024, 1, 1)}, {on(2000, 1, 1), 146097, on(2400, 1, 1)}, {on(2000, 1, 1), -146097, on(1600, 1, 1)}, {on(0, 1, 1), -1, on(-1, 12, 31)}, {on(-1, 12, 31), 1, on(0, 1, 1)}, {on(0, 12, 31), 1, on(1, 1, 1)},
		{at(2024, 2, 28, 23, 59, 59), 1, at(2024, 2, 29, 23, 59, 59)}, {at(2024, 2, 29, 1, 2, 3), -60, at(2023, 12, 31, 1, 2, 3)}, {on(1970, 1, 1), -719528, on(0, 1, 1)},
		{leastDate, 2922305, on(6000, 12, 31)}, {greatestDate, -2922305, at(-2000, 1, 1, 23, 59, 59)}, {leastDate, 1, on(-2000, 1, 2)}, {greatestDate, -1, at(6000, 12, 30, 23, 59, 59)}, {at(-2000, 1, 2, 5, 6, 7), -1, at(-2000, 1, 1, 5, 6, 7)}, // no moments
	} {
		if d, err := AddDays(c.date, c.n); d != c.want || err != api.OK {
			t.Errorf("%v, %d: %v (error %d), not %v", c.date, c.n, d, err, c.want)
		}
	}
	for _, c := range []struct {
		date Date
		n    int
		want api.Errno
	}{
		{leastDate, -1, api.ErrRange}, {at(-2000, 1, 1, 23, 59, 59), -1, api.ErrRange}, {leastDate, 2922306, api.ErrRange}, {greatestDate, 1, api.ErrRange}, {on(6000, 12, 31), 1, api.ErrRange}, {greatestDate, -2922306, api.ErrRange},
		{on(2024, 1, 1), 10000000, api.ErrRange}, {on(2024, 1, 1), -10000000, api.ErrRange}, {leastDate, 10000000, api.ErrRange}, {greatestDate, -10000000, api.ErrRange}, {greatestDate, 10000000, api.ErrRange},
		{on(2024, 1, 1), 10000001, api.ErrArg}, {on(2024, 1, 1), -10000001, api.ErrArg}, {leastDate, -10000001, api.ErrArg}, {greatestDate, 10000001, api.ErrArg},
		{on(2024, 1, 1), math.MaxInt, api.ErrArg}, {on(2024, 1, 1), math.MinInt, api.ErrArg}, {leastDate, math.MinInt, api.ErrArg}, {greatestDate, math.MaxInt, api.ErrArg}, {on(2024, 1, 1), 1<<32 + 1, api.ErrArg}, {on(2024, 1, 1), 1 << 57, api.ErrArg},
	} {
		if d, err := AddDays(c.date, c.n); d != (Date{}) || err != c.want {
			t.Errorf("%v, %d: %v, error %d, not %d", c.date, c.n, d, err, c.want)
		}
	}
}

// P5.2
func TestBetween(t *testing.T) {
	for _, c := range []struct {
		a, b                Date
		years, months, days int
	}{
		{on(2024, 5, 5), on(2024, 5, 5), 0, 0, 0}, {at(2024, 5, 5, 1, 2, 3), at(2024, 5, 5, 1, 2, 3), 0, 0, 0}, {on(2024, 2, 29), on(2024, 2, 29), 0, 0, 0}, {leastDate, leastDate, 0, 0, 0}, {greatestDate, greatestDate, 0, 0, 0},
		{on(2024, 5, 5), on(2024, 5, 6), 0, 0, 1}, {on(2024, 5, 5), on(2024, 6, 4), 0, 0, 30}, {on(2024, 5, 5), on(2024, 6, 5), 0, 1, 0}, {on(2024, 5, 5), on(2024, 6, 6), 0, 1, 1}, {on(2024, 5, 5), on(2025, 5, 4), 0, 11, 29}, {on(2024, 5, 5), on(2025, 5, 5), 1, 0, 0}, {on(2024, 5, 5), on(2025, 4, 5), 0, 11, 0}, {on(2024, 12, 31), on(2025, 1, 1), 0, 0, 1},
		// The time of the day.
		{at(2024, 5, 5, 12, 0, 0), at(2024, 5, 6, 11, 59, 59), 0, 0, 0}, {at(2024, 5, 5, 12, 0, 0), at(2024, 5, 6, 12, 0, 0), 0, 0, 1}, {at(2024, 5, 5, 12, 0, 0), at(2024, 6, 5, 11, 59, 59), 0, 0, 30}, {at(2024, 5, 5, 12, 0, 0), at(2024, 6, 5, 12, 0, 0), 0, 1, 0}, {at(2024, 5, 5, 12, 0, 0), at(2025, 5, 5, 11, 59, 59), 0, 11, 29}, {at(2024, 5, 5, 12, 0, 0), at(2025, 5, 5, 12, 0, 1), 1, 0, 0},
		{at(2024, 5, 5, 12, 0, 0), at(2024, 5, 5, 12, 0, 1), 0, 0, 0}, {at(2024, 5, 5, 0, 0, 1), at(2024, 5, 6, 0, 0, 0), 0, 0, 0}, {at(2024, 5, 5, 0, 1, 0), at(2024, 6, 5, 0, 0, 59), 0, 0, 30}, {at(2024, 5, 5, 1, 2, 3), at(2024, 7, 8, 1, 2, 2), 0, 2, 2}, {at(2024, 5, 5, 1, 2, 3), at(2024, 7, 8, 3, 2, 1), 0, 2, 3},
		// A day that is cut.
		{on(2024, 1, 31), on(2024, 2, 29), 0, 1, 0}, {on(2024, 1, 31), on(2024, 2, 28), 0, 0, 28}, {on(2024, 1, 31), on(2024, 3, 1), 0, 1, 1}, {on(2024, 1, 31), on(2024, 3, 30), 0, 1, 30}, {on(2024, 1, 31), on(2024, 3, 31), 0, 2, 0}, {on(2023, 1, 31), on(2023, 2, 28), 0, 1, 0}, {on(2023, 1, 29), on(2023, 3, 1), 0, 1, 1}, {on(2024, 1, 30), on(2024, 2, 29), 0, 1, 0}, {at(2024, 1, 31, 12, 0, 0), at(2024, 2, 29, 11, 0, 0), 0, 0, 28}, {at(2024, 1, 31, 12, 0, 0), at(2024, 2, 29, 12, 0, 0), 0, 1, 0},
		{on(2020, 2, 29), on(2021, 2, 28), 1, 0, 0}, {on(2020, 2, 29), on(2021, 3, 1), 1, 0, 1}, {on(2020, 2, 29), on(2021, 2, 27), 0, 11, 29}, {on(2020, 2, 29), on(2024, 2, 28), 3, 11, 30}, {on(2020, 2, 29), on(2024, 2, 29), 4, 0, 0}, {on(2020, 2, 28), on(2021, 2, 28), 1, 0, 0}, {on(2019, 2, 28), on(2020, 2, 29), 1, 0, 1}, {on(2020, 2, 29), on(2100, 2, 28), 80, 0, 0},
		{on(-1, 12, 31), on(0, 1, 1), 0, 0, 1}, {on(-1, 12, 31), on(1, 1, 1), 1, 0, 1}, {on(-1, 12, 31), on(0, 2, 29), 0, 2, 0}, {on(-5, 3, 1), on(5, 2, 28), 9, 11, 27}, {on(0, 2, 29), on(1, 2, 28), 1, 0, 0},
		// No moments, and no AddMonths by a month more.
		{leastDate, greatestDate, 8000, 11, 30}, {leastDate, on(6000, 12, 1), 8000, 11, 0}, {greatestDate, greatestDate, 0, 0, 0}, {on(6000, 11, 30), greatestDate, 0, 1, 1}, {at(6000, 12, 1, 0, 0, 0), greatestDate, 0, 0, 30}, {leastDate, on(-2000, 1, 31), 0, 0, 30}, {firstDate, lastDate, 6337, 9, 0},
	} {
		years, months, days, err := Between(c.a, c.b)
		if years != c.years || months != c.months || days != c.days || err != api.OK {
			t.Errorf("%v, %v: %d, %d, %d (error %d), not %d, %d, %d", c.a, c.b, years, months, days, err, c.years, c.months, c.days)
		}
	}
	for _, pair := range [][2]Date{
		{at(2024, 5, 5, 0, 0, 1), on(2024, 5, 5)}, {at(2024, 5, 5, 0, 1, 0), at(2024, 5, 5, 0, 0, 59)}, {on(2024, 5, 6), at(2024, 5, 5, 23, 59, 59)}, {on(2024, 6, 1), on(2024, 5, 31)}, {on(2025, 1, 1), on(2024, 12, 31)},
		{on(0, 1, 1), on(-1, 12, 31)}, {on(1, 1, 1), on(-5, 6, 6)}, {greatestDate, leastDate}, {on(6000, 12, 31), on(6000, 12, 30)}, {on(-1999, 1, 1), leastDate}, {on(2024, 12, 1), on(2024, 1, 31)},
	} {
		years, months, days, err := Between(pair[0], pair[1])
		if years != 0 || months != 0 || days != 0 || err != api.ErrArg {
			t.Errorf("%v: %d, %d, %d, error %d", pair, years, months, days, err)
		}
	}
}
