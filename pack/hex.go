package pack

import "cabochon/api"

// symbols are the hex digits.
const symbols = "0123456789abcdef"

// digitValue returns what a hex digit stands for, and false if it is none.
func digitValue(symbol byte) (value byte, ok bool) {
	switch {
	case symbol >= '0' && symbol <= '9':
		return symbol - '0', true
	case symbol >= 'a' && symbol <= 'f':
		return symbol - 'a' + 10, true
	}
	return 0, false
}

// fromDigits returns the bytes of as many hex digits as d asks for, and false if one of s that counts is none.
func (d directive) fromDigits(s string) ([]byte, bool) {
	count := d.count
	if d.all {
		count = len(s)
	}
	bytes := make([]byte, (count+1)/2)
	for i := range min(count, len(s)) {
		value, ok := digitValue(s[i])
		if !ok {
			return nil, false
		}
		if i%2 == 0 {
			value *= 16
		}
		bytes[i/2] += value
	}
	return bytes, true
}

// digits returns the hex digits of the bytes with which s begins, at most as many as d asks for, and how many bytes these take.
func (d directive) digits(s string) (text string, size int) {
	if d.all {
		return Hex(s), len(s)
	}
	size = min((d.count+1)/2, len(s))
	text = Hex(s[:size])
	return text[:min(d.count, len(text))], size
}

// Hex returns the bytes as hex digits, two for each.
func Hex(bytes string) string {
	digits := make([]byte, 0, 2*len(bytes))
	for i := range len(bytes) {
		digits = append(digits, symbols[bytes[i]/16], symbols[bytes[i]%16])
	}
	return string(digits)
}

// Bytes returns the bytes that are written as hex digits.
func Bytes(hex string) (string, api.Errno) {
	bytes, ok := directive{letter: 'H', all: true}.fromDigits(hex)
	if !ok || len(hex)%2 == 1 {
		return "", api.ErrArg
	}
	return string(bytes), api.OK
}
