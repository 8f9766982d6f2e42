package clock

const (
	firstYear  = -2000
	lastYear   = 6000
	yearMonths = 12
	daySeconds = 86400
	// cycleDays is how many days 400 years have, behind which leap years come again.
	cycleDays = 146097
	// daysTo1970 is how many days the moment 0 is behind the first day of the year 0.
	daysTo1970 = 719528
	// weekdayOf0 is the day of the week of the first day of the year 0, a Saturday.
	weekdayOf0 = 5
)

// within tells whether n is from least to greatest.
func within(n, least, greatest int) bool {
	return least <= n && n <= greatest
}

// over returns n by m, which is above 0, rounded down, and the rest.
func over(n, m int) (quotient, rest int) {
	quotient, rest = n/m, n%m
	if rest < 0 {
		return quotient - 1, rest + m
	}
	return quotient, rest
}

func isYear(year int) bool {
	return within(year, firstYear, lastYear)
}

func isMonth(year, month int) bool {
	return isYear(year) && within(month, 1, yearMonths)
}

func isLeap(year int) bool {
	return year%4 == 0 && (year%100 != 0 || year%400 == 0)
}

// daysIn returns how many days a month from 1 to 12 has.
func daysIn(year, month int) int {
	switch month {
	case 2:
		if isLeap(year) {
			return 29
		}
		return 28
	case 4, 6, 9, 11:
		return 30
	}
	return 31
}

// daysToYear returns the first day of a year, counted from that of the year 0 on. This and what follows holds for years out of the years, too.
func daysToYear(year int) int {
	// A leap year moves only the years behind it: 0 is the first one that does, so that it counts from the year 1 on.
	fourths, _ := over(year+3, 4)
	hundredths, _ := over(year+99, 100)
	cycles, _ := over(year+399, 400)
	return year*365 + fourths - hundredths + cycles
}

// yearOf returns the year of a day.
func yearOf(day int) int {
	// A cycle's years are not of the same length: the year of the mean length may be a neighbour.
	year, _ := over(day*400, cycleDays)
	for daysToYear(year) > day {
		year--
	}
	for daysToYear(year+1) <= day {
		year++
	}
	return year
}

// daysTo returns the day of a date.
func daysTo(d Date) int {
	day := daysToYear(d.Year) + d.Day - 1
	for month := 1; month < d.Month; month++ {
		day += daysIn(d.Year, month)
	}
	return day
}

// weekday returns the day of the week of a day, from 0 for Monday on.
func weekday(day int) int {
	_, rest := over(day+weekdayOf0, 7)
	return rest
}

// secondsTo returns how many seconds a date is behind the moment 0, if no offset is between them.
func secondsTo(d Date) int {
	days := daysTo(d) - daysTo1970
	return ((days*24+d.Hour)*60+d.Minute)*60 + d.Second
}

// dateAt returns the date of which secondsTo returns these seconds.
func dateAt(seconds int) Date {
	days, rest := over(seconds, daySeconds)
	days += daysTo1970
	d := Date{Year: yearOf(days), Month: 1, Hour: rest / 3600, Minute: rest / 60 % 60, Second: rest % 60}
	days -= daysToYear(d.Year)
	for days >= daysIn(d.Year, d.Month) {
		days -= daysIn(d.Year, d.Month)
		d.Month++
	}
	d.Day = days + 1
	return d
}

// monthsLater returns the date n months later, on the last day of that month if it is too short.
func monthsLater(d Date, n int) Date {
	year, month := over(d.Year*yearMonths+d.Month-1+n, yearMonths)
	d.Year, d.Month = year, month+1
	d.Day = min(d.Day, daysIn(d.Year, d.Month))
	return d
}
