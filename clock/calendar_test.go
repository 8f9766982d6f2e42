package clock

import (
	"cabochon/api"
	"math"
	"testing"
)

// on returns the beginning of a day.
func on(year, month, day int) Date {
	return Date{Year: year, Month: month, Day: day}
}

func at(year, month, day, hour, minute, second int) Date {
	return Date{year, month, day, hour, minute, second}
}

var (
	leastDate    = on(-2000, 1, 1)
	greatestDate = at(6000, 12, 31, 23, 59, 59)
	// The dates of the first and the last moment.
	firstDate = at(-1199, 2, 15, 14, 13, 20)
	lastDate  = at(5138, 11, 16, 9, 46, 40)
)

// extremes are numbers that are out of every range, also those that would be in it with fewer bits.
var extremes = []int{math.MinInt, math.MinInt + 1, math.MaxInt, math.MaxInt - 1, 1 << 32, 1<<32 + 1, -1 << 32, 1<<16 + 1, 1<<8 + 1<<16, 1<<63 - 1970}

// P5.2: dates that the calendar has.
func TestValid(t *testing.T) {
	for _, d := range []Date{
		leastDate, greatestDate, firstDate, lastDate, on(-1, 12, 31), on(0, 1, 1), on(1, 1, 1), on(99, 5, 5), on(999, 5, 5), on(1970, 1, 1),
		on(2024, 2, 29), on(2000, 2, 29), on(0, 2, 29), on(-4, 2, 29), on(-400, 2, 29), on(-2000, 2, 29), on(6000, 2, 29), on(2023, 2, 28),
		at(2024, 6, 1, 23, 0, 0), at(2024, 6, 1, 0, 59, 0), at(2024, 6, 1, 0, 0, 59), at(2016, 12, 31, 23, 59, 59),
	} {
		if !Valid(d) {
			t.Errorf("%v is no date", d)
		}
	}
	for month, days := range []int{31, 28, 31, 30, 31, 30, 31, 31, 30, 31, 30, 31} {
		if !Valid(on(2023, month+1, days)) || !Valid(on(2023, month+1, 1)) {
			t.Errorf("month %d of %d days", month+1, days)
		}
		refused(t, on(2023, month+1, days+1))
		refused(t, on(2023, month+1, 0))
	}
}

// P5.1, P5.2: dates that the calendar has not, each with one number that is wrong.
func TestNoDates(t *testing.T) {
	for _, d := range []Date{
		{}, on(-2001, 12, 31), on(6001, 1, 1), on(-2001, 1, 1), on(6001, 12, 31), on(10000, 1, 1), on(-10000, 1, 1),
		on(2024, 0, 1), on(2024, 13, 1), on(2024, -1, 1), on(2024, 6, 0), on(2024, 6, 31), on(2024, 6, -1), on(2024, 7, 32),
		on(2023, 2, 29), on(2024, 2, 30), on(1900, 2, 29), on(2100, 2, 29), on(100, 2, 29), on(-1, 2, 29), on(-2, 2, 29), on(-100, 2, 29), on(-1900, 2, 29), on(5900, 2, 29), on(2000, 2, 30), on(0, 2, 30),
		at(2024, 6, 1, 24, 0, 0), at(2024, 6, 1, -1, 0, 0), at(2024, 6, 1, 0, 60, 0), at(2024, 6, 1, 0, -1, 0), at(2024, 6, 1, 0, 0, 60), at(2024, 6, 1, 0, 0, -1), at(2016, 12, 31, 23, 59, 60),
	} {
		refused(t, d)
	}
	for _, n := range extremes {
		for _, d := range []Date{on(n, 6, 1), on(2024, n, 1), on(2024, 6, n), at(2024, 6, 1, n, 0, 0), at(2024, 6, 1, 0, n, 0), at(2024, 6, 1, 0, 0, n), {n, n, n, n, n, n}} {
			refused(t, d)
		}
	}
}

// refused calls each function of dates with what is none.
func refused(t *testing.T, d Date) {
	t.Helper()
	if Valid(d) {
		t.Errorf("%v is a date", d)
	}
	number := func(name string, n int, err api.Errno) {
		t.Helper()
		if n != 0 || err != api.ErrArg {
			t.Errorf("%s of %v: %d, error %d", name, d, n, err)
		}
	}
	date := func(name string, got Date, err api.Errno) {
		t.Helper()
		if got != (Date{}) || err != api.ErrArg {
			t.Errorf("%s of %v: %v, error %d", name, d, got, err)
		}
	}
	n, err := Moment(d)
	number("Moment", n, err)
	n, err = Weekday(d)
	number("Weekday", n, err)
	n, err = YearDay(d)
	number("YearDay", n, err)
	year, n, err := Week(d)
	number("Week", year, err)
	number("Week", n, err)
	// The other arguments would be errors, too.
	for _, z := range []Zone{{}, {Offset: 3600, Changes: []Change{{0, 0}, {100, 3600}}}, {Offset: 86401}} {
		n, err = Resolve(z, d)
		number("Resolve", n, err)
		list, err := Moments(z, d)
		number("Moments", len(list), err)
	}
	for _, n := range []int{0, 1, 120000, 120001, math.MinInt} {
		got, err := AddMonths(d, n)
		date("AddMonths", got, err)
		got, err = AddDays(d, n*100)
		date("AddDays", got, err)
	}
	for _, pair := range [][2]Date{{d, d}, {d, greatestDate}, {leastDate, d}, {d, leastDate}, {greatestDate, d}} {
		years, months, days, err := Between(pair[0], pair[1])
		number("Between's years", years, err)
		number("Between's months", months, err)
		number("Between's days", days, err)
	}
	if s, err := Text(d); s != "" || err != api.ErrArg {
		t.Errorf("Text of %v: %q, error %d", d, s, err)
	}
}

// P5.2
func TestLeap(t *testing.T) {
	for _, year := range []int{-2000, -1996, -1600, -1204, -404, -400, -4, 0, 4, 96, 400, 1600, 1904, 1972, 2000, 2024, 4000, 5996, 6000} {
		if leap, err := Leap(year); !leap || err != api.OK {
			t.Errorf("%d: %t, error %d", year, leap, err)
		}
	}
	for _, year := range []int{-1999, -1998, -1997, -1900, -1800, -401, -399, -300, -200, -100, -5, -3, -2, -1, 1, 2, 3, 5, 100, 200, 300, 1700, 1800, 1900, 1970, 1971, 2023, 2100, 5900, 5999} {
		if leap, err := Leap(year); leap || err != api.OK {
			t.Errorf("%d: %t, error %d", year, leap, err)
		}
	}
	for _, year := range append([]int{-2001, -2004, -2400, 6001, 6004, 6400, 10000}, extremes...) {
		if leap, err := Leap(year); leap || err != api.ErrArg {
			t.Errorf("%d: %t, error %d", year, leap, err)
		}
	}
}

// P5.2
func TestDays(t *testing.T) {
	lengths := []int{31, 28, 31, 30, 31, 30, 31, 31, 30, 31, 30, 31}
	for _, year := range []int{-2000, -1999, -1900, -400, -100, -4, -1, 0, 1, 4, 99, 100, 400, 999, 1900, 1970, 2000, 2023, 2024, 2100, 5999, 6000} {
		leap, _ := Leap(year)
		for i, want := range lengths {
			if leap && i == 1 {
				want = 29
			}
			if n, err := Days(year, i+1); n != want || err != api.OK {
				t.Errorf("%d, %d: %d (error %d), not %d", year, i+1, n, err, want)
			}
		}
	}
	for _, n := range extremes {
		notDays(t, n, 1)
		notDays(t, n, 2)
		notDays(t, 2024, n)
		notDays(t, n, n)
	}
	for month := -1; month <= 14; month++ {
		notDays(t, -2001, month)
		notDays(t, 6001, month)
	}
	for _, month := range []int{-12, -2, -1, 0, 13, 14, 24} {
		notDays(t, 2024, month)
		notDays(t, -2000, month)
		notDays(t, 6000, month)
	}
}

func notDays(t *testing.T, year, month int) {
	t.Helper()
	if n, err := Days(year, month); n != 0 || err != api.ErrArg {
		t.Errorf("%d, %d: %d, error %d", year, month, n, err)
	}
}

// P5.2: dates and their moments, both ways.
func TestMomentAndOf(t *testing.T) {
	for _, c := range []struct {
		date   Date
		moment int
	}{
		{on(1970, 1, 1), 0}, {at(1970, 1, 1, 0, 0, 1), 1}, {at(1970, 1, 1, 0, 1, 0), 60}, {at(1970, 1, 1, 1, 0, 0), 3600}, {at(1970, 1, 1, 23, 59, 59), 86399}, {on(1970, 1, 2), 86400},
		{at(1969, 12, 31, 23, 59, 59), -1}, {on(1969, 12, 31), -86400}, {at(1969, 12, 30, 23, 59, 59), -86401}, {on(1971, 1, 1), 31536000}, {on(1973, 1, 1), 94694400}, {on(1972, 2, 29), 68169600}, {on(1972, 3, 1), 68256000},
		{on(2000, 2, 28), 951696000}, {on(2000, 2, 29), 951782400}, {on(2000, 3, 1), 951868800}, {at(2001, 9, 9, 1, 46, 40), 1000000000}, {at(2038, 1, 19, 3, 14, 8), 1 << 31}, {at(1901, 12, 13, 20, 45, 52), -1 << 31},
		{on(1900, 2, 28), -2203977600}, {on(1900, 3, 1), -2203891200}, {on(1, 1, 1), -62135596800}, {on(0, 12, 31), -62135683200}, {on(0, 1, 1), -62167219200}, {on(-1, 12, 31), -62167305600}, {on(0, 2, 29), -62162121600}, {on(0, 3, 1), -62162035200},
		{firstDate, -100000000000}, {at(-1199, 2, 15, 14, 13, 21), -99999999999}, {lastDate, 100000000000}, {at(5138, 11, 16, 9, 46, 39), 99999999999},
	} {
		if n, err := Moment(c.date); n != c.moment || err != api.OK {
			t.Errorf("Moment of %v: %d (error %d), not %d", c.date, n, err, c.moment)
		}
		if d, err := Of(c.moment); d != c.date || err != api.OK {
			t.Errorf("Of of %d: %v (error %d), not %v", c.moment, d, err, c.date)
		}
	}
	for _, d := range []Date{leastDate, greatestDate, at(-1199, 2, 15, 14, 13, 19), at(5138, 11, 16, 9, 46, 41), on(-1200, 12, 31), on(5139, 1, 1), on(-1999, 6, 1), on(5999, 6, 1)} {
		if n, err := Moment(d); n != 0 || err != api.ErrRange {
			t.Errorf("Moment of %v: %d, error %d", d, n, err)
		}
	}
	for _, n := range append([]int{-100000000001, 100000000001, -200000000000, 200000000000}, math.MinInt, math.MinInt+1, math.MaxInt, math.MaxInt-1, 1<<37, -1<<37, 1<<63-1) {
		if d, err := Of(n); d != (Date{}) || err != api.ErrRange {
			t.Errorf("Of of %d: %v, error %d", n, d, err)
		}
	}
}

// P5.2
func TestWeekday(t *testing.T) {
	for _, c := range []struct {
		date Date
		want int
	}{
		{on(1970, 1, 1), 3}, {on(1969, 12, 31), 2}, {on(1970, 1, 4), 6}, {on(1970, 1, 5), 0}, {on(2000, 1, 1), 5}, {on(2000, 2, 29), 1}, {on(2024, 2, 29), 3}, {on(2026, 11, 20), 4},
		{at(2024, 12, 30, 23, 59, 59), 0}, {at(2024, 12, 29, 23, 59, 59), 6}, {on(1, 1, 1), 0}, {on(0, 12, 31), 6}, {on(0, 1, 1), 5}, {on(-1, 12, 31), 4}, {firstDate, 3}, {lastDate, 2},
		{leastDate, 5}, {on(-2000, 1, 2), 6}, {on(-2000, 1, 3), 0}, {greatestDate, 6}, {on(6000, 12, 31), 6}, // no moments
	} {
		if n, err := Weekday(c.date); n != c.want || err != api.OK {
			t.Errorf("%v: %d (error %d), not %d", c.date, n, err, c.want)
		}
	}
}

// P5.2
func TestYearDay(t *testing.T) {
	for _, c := range []struct {
		date Date
		want int
	}{
		{on(2023, 1, 1), 1}, {at(2023, 1, 1, 23, 59, 59), 1}, {on(2023, 1, 31), 31}, {on(2023, 2, 1), 32}, {on(2023, 2, 28), 59}, {on(2023, 3, 1), 60}, {on(2023, 12, 30), 364}, {on(2023, 12, 31), 365},
		{on(2024, 2, 29), 60}, {on(2024, 3, 1), 61}, {on(2024, 12, 31), 366}, {on(1900, 12, 31), 365}, {on(2000, 12, 31), 366}, {on(0, 1, 1), 1}, {on(0, 12, 31), 366}, {on(-1, 12, 31), 365}, {on(-1, 1, 1), 1},
		{on(-100, 12, 31), 365}, {on(-400, 12, 31), 366}, {leastDate, 1}, {on(-2000, 12, 31), 366}, {greatestDate, 366}, {on(6000, 3, 1), 61}, // no moments
	} {
		if n, err := YearDay(c.date); n != c.want || err != api.OK {
			t.Errorf("%v: %d (error %d), not %d", c.date, n, err, c.want)
		}
	}
}

// P5.2
func TestWeek(t *testing.T) {
	for _, c := range []struct {
		date       Date
		year, week int
	}{
		{on(1970, 1, 1), 1970, 1}, {on(1969, 12, 29), 1970, 1}, {on(1969, 12, 28), 1969, 52}, {on(1970, 1, 4), 1970, 1}, {on(1970, 1, 5), 1970, 2}, {on(1970, 12, 31), 1970, 53},
		{on(2020, 12, 31), 2020, 53}, {on(2021, 1, 1), 2020, 53}, {on(2021, 1, 3), 2020, 53}, {on(2021, 1, 4), 2021, 1}, {on(2022, 1, 1), 2021, 52}, {on(2022, 1, 2), 2021, 52}, {on(2022, 1, 3), 2022, 1},
		{on(2024, 12, 29), 2024, 52}, {on(2024, 12, 30), 2025, 1}, {on(2024, 12, 31), 2025, 1}, {at(2024, 12, 29, 23, 59, 59), 2024, 52}, {on(2025, 12, 28), 2025, 52}, {on(2025, 12, 29), 2026, 1}, {on(2026, 1, 1), 2026, 1}, {on(2026, 11, 20), 2026, 47},
		{on(2000, 1, 1), 1999, 52}, {on(2005, 1, 1), 2004, 53}, {on(2004, 12, 31), 2004, 53}, {on(2018, 12, 31), 2019, 1}, {on(2024, 6, 1), 2024, 22},
		{on(0, 1, 1), -1, 52}, {on(0, 1, 3), 0, 1}, {on(-1, 1, 1), -2, 53}, {on(0, 12, 31), 0, 52}, {on(1, 1, 1), 1, 1}, {on(1, 12, 31), 2, 1}, {on(100, 1, 1), 99, 53}, {on(-1999, 12, 31), -1998, 1},
		{leastDate, -2001, 52}, {on(-2000, 1, 2), -2001, 52}, {on(-2000, 1, 3), -2000, 1}, {on(-2000, 12, 31), -2000, 52}, {on(6000, 1, 1), 5999, 52}, {on(6000, 1, 3), 6000, 1}, {greatestDate, 6000, 52}, {on(6000, 12, 24), 6000, 51}, // no moments
	} {
		year, week, err := Week(c.date)
		if year != c.year || week != c.week || err != api.OK {
			t.Errorf("%v: %d, %d (error %d), not %d, %d", c.date, year, week, err, c.year, c.week)
		}
	}
}
