package pack

import (
	"strconv"
	"strings"
)

const (
	maxDirectives = 50
	maxCount      = 1000
)

// The letters of what is no number.
const (
	ofTexts   = "aAZH"
	ofNothing = "x@"
)

const (
	ofSigned = "cslq"
	// ofEither are the letters of numbers that a > turns around, ofGreatest those of numbers that always stand so.
	ofEither   = "SsLlQq"
	ofGreatest = "nN"
)

// directive is a letter of a form with what stands behind it.
type directive struct {
	letter byte
	// isNumber tells of what kind the items are, size how many bytes each of them has, or 0 if that hangs on the number.
	isNumber bool
	size     int
	// greatestFirst tells in which order these bytes stand.
	greatestFirst bool
	// all stands for the count *, with which there is no other one.
	all   bool
	count int
}

// sizes returns how many bytes the numbers of each letter have, 0 where that hangs on the number.
func sizes() map[byte]int {
	return map[byte]int{
		'C': 1, 'c': 1, 'S': 2, 's': 2, 'L': 4, 'l': 4, 'Q': 8, 'q': 8, 'n': 2, 'N': 4,
		'w': 0, 'U': 0,
	}
}

// is tells whether the letter of d is one of these.
func (d directive) is(letters string) bool {
	return strings.IndexByte(letters, d.letter) >= 0
}

// directives reads a form, and returns false if it is malformed.
func directives(form string) ([]directive, bool) {
	table := sizes()
	var list []directive
	for rest := withoutBlanks(form); len(rest) > 0; rest = withoutBlanks(rest) {
		d := directive{letter: rest[0]}
		d.size, d.isNumber = table[d.letter]
		if !d.isNumber && !d.is(ofTexts+ofNothing) || len(list) == maxDirectives {
			return nil, false
		}
		rest = d.readOrder(rest[1:])
		var ok bool
		if rest, ok = d.readCount(rest); !ok {
			return nil, false
		}
		list = append(list, d)
	}
	return list, true
}

// withoutBlanks returns s from its first byte on that is no blank.
func withoutBlanks(s string) string {
	return strings.TrimLeft(s, " ")
}

// readOrder notes in d the order of bytes, and returns what stands behind it in s.
func (d *directive) readOrder(s string) string {
	d.greatestFirst = d.is(ofGreatest)
	if rest, ok := strings.CutPrefix(s, ">"); ok && d.is(ofEither) {
		d.greatestFirst = true
		return rest
	}
	return s
}

// readCount notes in d the count with which s begins, or the one that no count stands for, and returns what stands behind it, and false if there may be no such count.
func (d *directive) readCount(s string) (rest string, ok bool) {
	if rest, ok := strings.CutPrefix(s, "*"); ok {
		d.all = true
		return rest, !d.is(ofNothing)
	}
	least := 1
	if d.letter == '@' {
		least = 0
	}
	rest = strings.TrimLeft(s, "0123456789")
	digits := s[:len(s)-len(rest)]
	if digits == "" {
		d.count = least
		return rest, true
	}
	// Of digits that are too many for a number there is an error too.
	count, err := strconv.Atoi(digits)
	d.count = count
	return rest, err == nil && count >= least && count <= maxCount && (digits == "0" || digits[0] != '0')
}
