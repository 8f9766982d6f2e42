package whole

import (
	"cmp"
	"math"
	"math/bits"
	"slices"
	"strings"
)

const wordBits = 32

// symbols are the digits of all bases.
const symbols = "0123456789abcdefghijklmnopqrstuvwxyz"

// natural is a whole number from 0 on: its words, which are its digits to the base 2^32, from the least one to the greatest, which is not 0. The words of a natural are never changed.
type natural []uint32

// trimmed is the natural with these words, of which the greatest may be 0.
func trimmed(words []uint32) natural {
	for len(words) > 0 && words[len(words)-1] == 0 {
		words = words[:len(words)-1]
	}
	return words
}

// powerOfTwo returns 2 to the power n.
func powerOfTwo(n int) natural {
	words := make([]uint32, n/wordBits+1)
	words[n/wordBits] = 1 << (n % wordBits)
	return words
}

// powerOfTen returns 10 to the power n.
func powerOfTen(n int) natural {
	power := natural{1}
	for range n {
		power = power.times(natural{10})
	}
	return power
}

// bits returns how many binary digits a has, 0 for 0.
func (a natural) bits() int {
	if len(a) == 0 {
		return 0
	}
	greatest := len(a) - 1
	return greatest*wordBits + bits.Len32(a[greatest])
}

func (a natural) compare(b natural) int {
	if order := cmp.Compare(len(a), len(b)); order != 0 {
		return order
	}
	for i := len(a) - 1; i >= 0; i-- {
		if order := cmp.Compare(a[i], b[i]); order != 0 {
			return order
		}
	}
	return 0
}

func (a natural) plus(b natural) natural {
	if len(a) < len(b) {
		a, b = b, a
	}
	sum := make([]uint32, len(a)+1)
	copy(sum, a)
	raise(sum, b)
	return trimmed(sum)
}

// minus returns a less b, which is at most a.
func (a natural) minus(b natural) natural {
	rest := make([]uint32, len(a))
	copy(rest, a)
	lower(rest, b, 1)
	return trimmed(rest)
}

func (a natural) times(b natural) natural {
	product := make([]uint32, len(a)+len(b))
	for i, x := range a {
		carry := uint64(0)
		for j, y := range b {
			carry += uint64(product[i+j]) + uint64(x)*uint64(y)
			product[i+j] = uint32(carry)
			carry >>= wordBits
		}
		product[i+len(b)] = uint32(carry)
	}
	return trimmed(product)
}

// over returns a by b, which is not 0, rounded down, and the rest.
func (a natural) over(b natural) (quotient, rest natural) {
	if a.compare(b) < 0 {
		return nil, a
	}
	// With the greatest bit of its greatest word set, a divisor can be guessed by that word: see takeAway.
	scale := uint32(1) << bits.LeadingZeros32(b[len(b)-1])
	divisor := b.times(natural{scale})
	left := make([]uint32, len(a)+1)
	copy(left, a.times(natural{scale}))
	words := make([]uint32, len(a)-len(b)+1)
	for i := len(words) - 1; i >= 0; i-- {
		words[i] = takeAway(left[i:i+len(divisor)+1], divisor)
	}
	rest, _ = trimmed(left).overWord(scale)
	return trimmed(words), rest
}

// overWord is over for a divisor of one word.
func (a natural) overWord(divisor uint32) (quotient natural, rest uint32) {
	words := make([]uint32, len(a))
	left := uint64(0)
	for i := len(a) - 1; i >= 0; i-- {
		left = left<<wordBits | uint64(a[i])
		words[i] = uint32(left / uint64(divisor))
		left %= uint64(divisor)
	}
	return trimmed(words), uint32(left)
}

// takeAway takes the divisor away from left as often as it is in it, and returns how often. It is in it less than 2^32 times, left has one word more, and the greatest bit of the divisor's greatest word is set.
func takeAway(left []uint32, divisor natural) uint32 {
	n := len(divisor)
	highest := uint64(left[n])<<wordBits | uint64(left[n-1])
	// The guess is never too low, and too high by 2 at most.
	often := min(highest/uint64(divisor[n-1]), math.MaxUint32)
	tooOften := lower(left, divisor, uint32(often))
	for tooOften {
		often--
		tooOften = !raise(left, divisor)
	}
	return uint32(often)
}

// lower changes words to those less b times a factor, and tells whether this is below 0: then 2^32 to the power of their number is added. b has at most as many words.
func lower(words []uint32, b natural, factor uint32) bool {
	carry, borrow := uint64(0), uint32(0)
	for i := range words {
		if i < len(b) {
			carry += uint64(b[i]) * uint64(factor)
		}
		words[i], borrow = bits.Sub32(words[i], uint32(carry), borrow)
		carry >>= wordBits
	}
	return borrow == 1
}

// raise changes words to those and b, and tells whether they are too few for this: then the part that they hold is left. b has at most as many words.
func raise(words []uint32, b natural) bool {
	carry := uint32(0)
	for i := range words {
		word := uint32(0)
		if i < len(b) {
			word = b[i]
		}
		words[i], carry = bits.Add32(words[i], word, carry)
	}
	return carry == 1
}

// commonDivisor returns the greatest common divisor of a and b, and of 0 and 0 it returns 0.
func commonDivisor(a, b natural) natural {
	for len(b) > 0 {
		_, rest := a.over(b)
		a, b = b, rest
	}
	return a
}

// root returns the greatest natural whose square is at most a.
func (a natural) root() natural {
	if len(a) == 0 {
		return nil
	}
	// From a guess that is too high, the guesses fall until the root is reached.
	guess := powerOfTwo((a.bits() + 1) / 2)
	for {
		quotient, _ := a.over(guess)
		next, _ := guess.plus(quotient).overWord(2)
		if next.compare(guess) >= 0 {
			return guess
		}
		guess = next
	}
}

// text returns the digits of a to a base from 2 to 36.
func (a natural) text(base int) string {
	power, places := wordPower(base)
	var digits []byte
	for len(a) > 0 {
		rest, part := a.overWord(power)
		for range places {
			digits = append(digits, symbols[part%uint32(base)])
			part /= uint32(base)
		}
		a = rest
	}
	slices.Reverse(digits)
	text := strings.TrimLeft(string(digits), "0")
	if text == "" {
		return "0"
	}
	return text
}

// wordPower returns the greatest power of the base that is a word, and how often the base is in it: one division by it gives as many digits.
func wordPower(base int) (power uint32, places int) {
	greatest := uint64(1)
	for greatest*uint64(base) <= math.MaxUint32 {
		greatest *= uint64(base)
		places++
	}
	return uint32(greatest), places
}

// readNatural returns the natural whose digits to a base from 2 to 36 are s, and false if s is malformed: it needs a digit, and between two digits it may have one _.
func readNatural(s string, base int) (natural, bool) {
	var words []uint32
	behindDigit := false
	for i := range len(s) {
		if s[i] == '_' && behindDigit {
			behindDigit = false
			continue
		}
		digit, ok := digitOf(s[i], base)
		if !ok {
			return nil, false
		}
		words = extended(words, base, digit)
		behindDigit = true
	}
	if !behindDigit {
		return nil, false
	}
	return words, true
}

// digitOf returns what a small or a capital letter or a decimal digit stands for to the base, and false if it is no digit there.
func digitOf(char byte, base int) (int, bool) {
	if char >= 'A' && char <= 'Z' {
		char += 'a' - 'A'
	}
	digit := strings.IndexByte(symbols[:base], char)
	return max(digit, 0), digit >= 0
}

// extended returns the words with one more digit to the base, in the memory of the words if it suffices.
func extended(words []uint32, base, digit int) []uint32 {
	carry := uint64(digit)
	for i, word := range words {
		carry += uint64(word) * uint64(base)
		words[i] = uint32(carry)
		carry >>= wordBits
	}
	if carry > 0 {
		words = append(words, uint32(carry))
	}
	return words
}
