package clock

import (
	"cabochon/api"
	"math/rand"
	"slices"
	"testing"
	"time"
)

// randomDate returns a date of any year, often at the end of a month, of the years or of the moments.
func randomDate(random *rand.Rand) Date {
	years := []int{random.Intn(8001) - 2000, random.Intn(8001) - 2000, -2000, -1199, -1, 0, 1, 2000, 2024, 5138, 6000}
	d := at(years[random.Intn(len(years))], random.Intn(12)+1, random.Intn(31)+1, random.Intn(24), random.Intn(60), random.Intn(60))
	if random.Intn(3) == 0 {
		d.Day = 31
	}
	if random.Intn(4) == 0 {
		d.Hour, d.Minute, d.Second = 0, 0, random.Intn(2)
	}
	days, _ := Days(d.Year, d.Month)
	d.Day = min(d.Day, days)
	return d
}

func ofGo(t time.Time) Date {
	return at(t.Year(), int(t.Month()), t.Day(), t.Hour(), t.Minute(), t.Second())
}

func toGo(d Date) time.Time {
	return time.Date(d.Year, time.Month(d.Month), d.Day, d.Hour, d.Minute, d.Second, 0, time.UTC)
}

// P5.2: each day of the calendar, held against Go's own one and against the day ahead of it.
func TestAllDays(t *testing.T) {
	yesterday := on(-2001, 12, 31)
	for clock := toGo(leastDate); clock.Year() <= 6000; clock = clock.AddDate(0, 0, 1) {
		d := ofGo(clock)
		weekday, errOfWeekday := Weekday(d)
		yearDay, errOfYearDay := YearDay(d)
		year, week, errOfWeek := Week(d)
		wantedYear, wantedWeek := clock.ISOWeek()
		if weekday != (int(clock.Weekday())+6)%7 || yearDay != clock.YearDay() || year != wantedYear || week != wantedWeek || errOfWeekday != api.OK || errOfYearDay != api.OK || errOfWeek != api.OK {
			t.Fatalf("%v: Weekday %d (error %d), YearDay %d (error %d), Week %d, %d (error %d)", d, weekday, errOfWeekday, yearDay, errOfYearDay, year, week, errOfWeek)
		}
		wantedMoment, wanted := int(clock.Unix()), api.OK
		if wantedMoment < least || wantedMoment > greatest {
			wantedMoment, wanted = 0, api.ErrRange
		}
		if n, err := Moment(d); n != wantedMoment || err != wanted {
			t.Fatalf("Moment of %v: %d (error %d), not %d (error %d)", d, n, err, wantedMoment, wanted)
		}
		if next, err := AddDays(yesterday, 1); yesterday.Year >= -2000 && (next != d || err != api.OK) {
			t.Fatalf("%v and a day: %v (error %d)", yesterday, next, err)
		}
		yesterday = d
	}
	if yesterday != on(6000, 12, 31) {
		t.Errorf("the last day was %v", yesterday)
	}
}

// P5.2, P5.5: any moments and dates, held against Go's own calendar, and there and back.
func TestAnyMoments(t *testing.T) {
	random := rand.New(rand.NewSource(55))
	for range 200000 {
		moment := random.Intn(2*greatest+1) - greatest
		d, err := Of(moment)
		if want := ofGo(time.Unix(int64(moment), 0).UTC()); d != want || err != api.OK {
			t.Fatalf("Of of %d: %v (error %d), not %v", moment, d, err, want)
		}
		if n, err := Moment(d); n != moment || err != api.OK {
			t.Fatalf("Moment of %v: %d (error %d), not %d", d, n, err, moment)
		}
		d = randomDate(random)
		if moment, err = Moment(d); err == api.OK {
			if back, err := Of(moment); back != d || err != api.OK {
				t.Fatalf("Of of Moment of %v: %v (error %d)", d, back, err)
			}
		}
		if s, err := Text(d); err != api.OK {
			t.Fatalf("Text of %v: error %d", d, err)
		} else if back, err := Parse(s); back != d || err != api.OK {
			t.Fatalf("Parse of %q: %v (error %d)", s, back, err)
		}
	}
}

// P5.2, P5.5: days and months added, held against Go's own calendar, and days there and back.
func TestAnyAdding(t *testing.T) {
	random := rand.New(rand.NewSource(555))
	for range 200000 {
		d := randomDate(random)
		n := random.Intn(6000000) - 3000000
		want, wanted := ofGo(toGo(d).AddDate(0, 0, n)), api.OK
		if want.Year < -2000 || want.Year > 6000 {
			want, wanted = Date{}, api.ErrRange
		}
		later, err := AddDays(d, n)
		if later != want || err != wanted {
			t.Fatalf("%v and %d days: %v (error %d), not %v (error %d)", d, n, later, err, want, wanted)
		}
		if back, errOfBack := AddDays(later, -n); err == api.OK && (back != d || errOfBack != api.OK) {
			t.Fatalf("%v less %d days: %v (error %d), not %v", later, n, back, errOfBack, d)
		}
		n = random.Intn(200000) - 100000
		first := toGo(on(d.Year, d.Month, 1)).AddDate(0, n, 0)
		want, wanted = at(first.Year(), int(first.Month()), min(d.Day, first.AddDate(0, 1, -1).Day()), d.Hour, d.Minute, d.Second), api.OK
		if want.Year < -2000 || want.Year > 6000 {
			want, wanted = Date{}, api.ErrRange
		}
		if later, err = AddMonths(d, n); later != want || err != wanted {
			t.Fatalf("%v and %d months: %v (error %d), not %v (error %d)", d, n, later, err, want, wanted)
		}
	}
}

// P5.2, P5.5: a, with the years and months, is at most b, with a month more it is not; with the days it is less than a day ahead of b.
func TestAnyBetween(t *testing.T) {
	random := rand.New(rand.NewSource(5555))
	for range 200000 {
		a, b := randomDate(random), randomDate(random)
		if random.Intn(2) == 0 {
			b = dateAt(secondsTo(a) + random.Intn(40000000))
		}
		years, months, days, err := Between(a, b)
		if !Valid(b) || toGo(a).After(toGo(b)) {
			if years != 0 || months != 0 || days != 0 || err != api.ErrArg {
				t.Fatalf("%v, %v: %d, %d, %d, error %d", a, b, years, months, days, err)
			}
			continue
		}
		if years < 0 || months < 0 || months > 11 || days < 0 || err != api.OK {
			t.Fatalf("%v, %v: %d, %d, %d (error %d)", a, b, years, months, days, err)
		}
		for more := 1; more <= 14; more++ {
			if later, err := AddMonths(a, years*12+months+more); err == api.OK && !toGo(later).After(toGo(b)) {
				t.Fatalf("%v, %v: %d, %d, but %d months more are not too many", a, b, years, months, more)
			}
		}
		later, errOfMonths := AddMonths(a, years*12+months)
		later, errOfDays := AddDays(later, days)
		left := toGo(b).Unix() - toGo(later).Unix()
		if errOfMonths != api.OK || errOfDays != api.OK || left < 0 || left >= 86400 {
			t.Fatalf("%v, %v: %d, %d, %d lead to %v", a, b, years, months, days, later)
		}
	}
}

// offsetAt is a second reading of P5.3, for all numbers.
func offsetAt(z Zone, moment int) int {
	for _, c := range slices.Backward(z.Changes) {
		if c.At <= moment {
			return c.Offset
		}
	}
	return z.Offset
}

// resolved is a second reading of P5.3's Resolve of a date without moments.
func resolved(z Zone, local int) (int, api.Errno) {
	for _, c := range z.Changes {
		old := offsetAt(z, c.At-1)
		if c.At+old <= local && local < c.At+c.Offset {
			if local-old > greatest {
				return 0, api.ErrRange
			}
			return local - old, api.OK
		}
	}
	return 0, api.ErrRange
}

// randomZone returns a zone whose changes and offsets are close to each other, near a moment, and whether it is one.
func randomZone(random *rand.Rand, near int) (Zone, bool) {
	ok := true
	z := Zone{Offset: random.Intn(41) - 20}
	moment := near + random.Intn(60) - 30
	for range random.Intn(7) {
		z.Changes = append(z.Changes, Change{moment, random.Intn(41) - 20})
		ok = ok && moment >= least && moment <= greatest
		moment += random.Intn(15) + 1
	}
	return z, ok
}

// P5.3, P5.5: any zones, at the moments' ends too, held against what each moment's local date is.
func TestAnyZones(t *testing.T) {
	random := rand.New(rand.NewSource(55555))
	count := 0
	for range 6000 {
		near := []int{0, least, greatest, random.Intn(2*greatest) - greatest}[random.Intn(4)]
		z, ok := randomZone(random, near)
		if !ok {
			notZone(t, z)
			continue
		}
		count++
		byLocal := map[int][]int{}
		for moment := max(near-200, least); moment <= min(near+200, greatest); moment++ {
			offset, err := Offset(z, moment)
			local, errOfLocal := Local(z, moment)
			if offset != offsetAt(z, moment) || local != dateAt(moment+offset) || err != api.OK || errOfLocal != api.OK {
				t.Fatalf("%v, %d: Offset %d (error %d), Local %v (error %d)", z, moment, offset, err, local, errOfLocal)
			}
			byLocal[moment+offset] = append(byLocal[moment+offset], moment)
		}
		for local := near - 150; local <= near+150; local++ {
			moments := byLocal[local]
			if len(moments) > 0 {
				told(t, z, local, moments, moments[0], api.OK)
				continue
			}
			moment, err := resolved(z, local)
			told(t, z, local, nil, moment, err)
		}
	}
	if count < 3000 {
		t.Errorf("%d zones alone", count)
	}
}
