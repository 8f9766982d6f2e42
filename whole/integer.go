package whole

import (
	"cabochon/api"
	"cmp"
	"strings"
)

// maxDigits is the length of the longest number, without its sign.
const maxDigits = 400

// tooManyBits is the least number of binary digits that only integers of more than maxDigits decimal ones have: 10^400 has 1329.
const tooManyBits = 1330

// integer is a whole number with its sign. What is below has a size above 0.
type integer struct {
	below bool
	size  natural
}

// signed returns the integer of a size, which is 0 if the size is, also where it is to be below.
func signed(below bool, size natural) integer {
	return integer{below && len(size) > 0, size}
}

func one() integer {
	return integer{false, natural{1}}
}

func (x integer) isZero() bool {
	return len(x.size) == 0
}

func (x integer) opposite() integer {
	return signed(!x.below, x.size)
}

func (x integer) plus(y integer) integer {
	if x.below == y.below {
		return signed(x.below, x.size.plus(y.size))
	}
	if x.size.compare(y.size) < 0 {
		return signed(y.below, y.size.minus(x.size))
	}
	return signed(x.below, x.size.minus(y.size))
}

func (x integer) minus(y integer) integer {
	return x.plus(y.opposite())
}

func (x integer) times(y integer) integer {
	return signed(x.below != y.below, x.size.times(y.size))
}

// over returns x by y, which is not 0, rounded down, and the rest.
func (x integer) over(y integer) (quotient, rest integer) {
	sizes, left := x.size.over(y.size)
	quotient = signed(x.below != y.below, sizes)
	rest = signed(x.below, left)
	if !rest.isZero() && x.below != y.below {
		return quotient.minus(one()), rest.plus(y)
	}
	return quotient, rest
}

func (x integer) compare(y integer) int {
	difference := x.minus(y)
	if difference.below {
		return -1
	}
	return cmp.Compare(len(difference.size), 0)
}

// power returns x to the power n, or, if this has more than maxDigits digits, some integer of which this is true too.
func (x integer) power(n int) integer {
	power := one()
	for range n {
		if power.size.bits() >= tooManyBits {
			break
		}
		power = power.times(x)
	}
	return power
}

// powerModulo returns x to the power n, modulo m, which is above 0.
func (x integer) powerModulo(n int, m integer) integer {
	modulo := func(y integer) integer {
		_, rest := y.over(m)
		return rest
	}
	power, factor := modulo(one()), modulo(x)
	for ; n > 0; n /= 2 {
		if n%2 == 1 {
			power = modulo(power.times(factor))
		}
		factor = modulo(factor.times(factor))
	}
	return power
}

// text returns x written to a base from 2 to 36.
func (x integer) text(base int) string {
	if x.below {
		return "-" + x.size.text(base)
	}
	return x.size.text(base)
}

// write returns x as a number, if it has not too many digits for that.
func (x integer) write() (string, api.Errno) {
	s := x.text(10)
	if !Valid(s) {
		return "", api.ErrLimit
	}
	return s, api.OK
}

// readInteger returns the integer that a number stands for, and false if s is no number.
func readInteger(s string) (integer, bool) {
	if !Valid(s) {
		return integer{}, false
	}
	digits, below := strings.CutPrefix(s, "-")
	size, ok := readNatural(digits, 10)
	return signed(below, size), ok
}
