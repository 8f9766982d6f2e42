package clock

import (
	"strconv"
	"strings"
)

const (
	digits     = "0123456789"
	yearDigits = 4
	// behindYear is what stands behind the year of a text, with 0 for each digit.
	behindYear = "-00-00 00:00:00"
)

// write returns a date that the calendar has as a text.
func write(d Date) string {
	sign, year := "", d.Year
	if year < 0 {
		sign, year = "-", -year
	}
	day := filled(year, yearDigits) + "-" + filled(d.Month, 2) + "-" + filled(d.Day, 2)
	return sign + day + " " + filled(d.Hour, 2) + ":" + filled(d.Minute, 2) + ":" + filled(d.Second, 2)
}

// filled returns n, from 0 on and of at most so many digits, with zeros in front of it up to their number.
func filled(n, count int) string {
	s := strconv.Itoa(n)
	return strings.Repeat("0", count-len(s)) + s
}

// read returns the date of a text, which the calendar need not have, and false if the text is malformed.
func read(s string) (Date, bool) {
	year, rest, ok := cutYear(s)
	if !ok || !fits(rest, behindYear) {
		return Date{}, false
	}
	number := func(at int) int { return int(rest[at]-'0')*10 + int(rest[at+1]-'0') }
	return Date{
		Year: year, Month: number(1), Day: number(4),
		Hour: number(7), Minute: number(10), Second: number(13),
	}, true
}

// cutYear returns the year with which a text begins and what stands behind it, and false if no year is written like this.
func cutYear(s string) (year int, rest string, ok bool) {
	behindSign, below := strings.CutPrefix(s, "-")
	rest = strings.TrimLeft(behindSign, digits)
	text := behindSign[:len(behindSign)-len(rest)]
	// Of more digits than an int has this is the greatest one, which is no year of the calendar either.
	year, _ = strconv.Atoi(text)
	ok = len(text) == yearDigits || len(text) > yearDigits && text[0] != '0'
	if below {
		ok = ok && year > 0
		year = -year
	}
	return year, rest, ok
}

// fits tells whether s is like a form in which 0 stands for each digit.
func fits(s, form string) bool {
	if len(s) != len(form) {
		return false
	}
	for i := range len(s) {
		if s[i] != form[i] && !(form[i] == '0' && strings.IndexByte(digits, s[i]) >= 0) {
			return false
		}
	}
	return true
}
