package whole

import (
	"cabochon/api"
	"strings"
)

// rational is its first number by its second, which is above 0 and has no common divisor with the first.
type rational struct {
	first, second integer
}

// reduced returns the rational that first by second is. The second is not 0.
func reduced(first, second integer) rational {
	if second.below {
		first, second = first.opposite(), second.opposite()
	}
	shared := signed(false, commonDivisor(first.size, second.size))
	first, _ = first.over(shared)
	second, _ = second.over(shared)
	return rational{first, second}
}

func (p rational) plus(q rational) rational {
	return reduced(p.first.times(q.second).plus(q.first.times(p.second)), p.second.times(q.second))
}

func (p rational) times(q rational) rational {
	return reduced(p.first.times(q.first), p.second.times(q.second))
}

func (p rational) compare(q rational) int {
	return p.first.times(q.second).compare(q.first.times(p.second))
}

// decimal returns p written with so many places.
func (p rational) decimal(places int) string {
	// Rounded down, the half that is added rounds to the nearest one. It is asked of the size, so halves go away from 0.
	double := p.first.size.times(powerOfTen(places)).times(natural{2})
	rounded, _ := double.plus(p.second.size).over(p.second.size.times(natural{2}))
	digits := rounded.text(10)
	if missing := places + 1 - len(digits); missing > 0 {
		digits = strings.Repeat("0", missing) + digits
	}
	if point := len(digits) - places; places > 0 {
		digits = digits[:point] + "." + digits[point:]
	}
	if p.first.below && len(rounded) > 0 {
		return "-" + digits
	}
	return digits
}

// write returns p as a rational, if its numbers have not too many digits for that.
func (p rational) write() (string, api.Errno) {
	first, err := p.first.write()
	if err != api.OK {
		return "", err
	}
	if p.second.compare(one()) == 0 {
		return first, api.OK
	}
	second, err := p.second.write()
	if err != api.OK {
		return "", err
	}
	return first + "/" + second, api.OK
}

// readRational returns what a rational stands for, and false if s is no rational.
func readRational(s string) (rational, bool) {
	a, b, two := strings.Cut(s, "/")
	first, ok := readInteger(a)
	if !ok {
		return rational{}, false
	}
	if !two {
		return rational{first, one()}, true
	}
	second, ok := readInteger(b)
	if !ok || second.compare(one()) <= 0 {
		return rational{}, false
	}
	if commonDivisor(first.size, second.size).compare(natural{1}) != 0 {
		return rational{}, false
	}
	return rational{first, second}, true
}
