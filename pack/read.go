package pack

import (
	"cabochon/api"
	"math"
	"strings"
	"unicode/utf8"
)

// maxSevens is how many bytes of 7 bits the greatest int has.
const maxSevens = 9

// reader has the items that are read so far, and the place in the bytes at which it goes on.
type reader struct {
	bytes string
	place int
	items []Item
}

// read unpacks bytes by a form.
func read(form, bytes string) ([]Item, api.Errno) {
	list, ok := directives(form)
	if !ok {
		return nil, api.ErrForm
	}
	r := reader{bytes: bytes}
	for _, d := range list {
		if err := r.follow(d); err != api.OK {
			return nil, err
		}
	}
	return r.items, api.OK
}

// follow does what a directive asks for.
func (r *reader) follow(d directive) api.Errno {
	switch {
	case d.letter == 'x':
		return r.goTo(r.place + d.count)
	case d.letter == '@':
		return r.goTo(d.count)
	case d.isNumber:
		return r.takeNumbers(d)
	}
	r.takeText(d)
	return api.OK
}

func (r *reader) goTo(place int) api.Errno {
	if place > len(r.bytes) {
		return api.ErrEnd
	}
	r.place = place
	return api.OK
}

// takeNumbers reads as many numbers as d asks for.
func (r *reader) takeNumbers(d directive) api.Errno {
	for n := 0; d.all || n < d.count; n++ {
		rest := r.bytes[r.place:]
		if d.all && len(rest) < max(d.size, 1) {
			return api.OK
		}
		value, size, err := d.number(rest)
		if err != api.OK {
			return err
		}
		r.items = append(r.items, Item{Int: value})
		r.place += size
	}
	return api.OK
}

// number returns the number with which s begins, and how many bytes it has.
func (d directive) number(s string) (value, size int, err api.Errno) {
	if len(s) < max(d.size, 1) {
		return 0, 0, api.ErrEnd
	}
	switch {
	case d.letter == 'U':
		return character(s)
	case d.letter == 'w':
		return ofSevens(s)
	}
	value, ok := d.fixed(s[:d.size])
	if !ok {
		return 0, 0, api.ErrRange
	}
	return value, d.size, api.OK
}

// fixed returns the number of which s is all bytes, and false if it is no int.
func (d directive) fixed(s string) (int, bool) {
	bits := uint64(0)
	for i := range len(s) {
		if d.greatestFirst {
			bits = bits<<8 | uint64(s[i])
		} else {
			bits |= uint64(s[i]) << (8 * i)
		}
	}
	if d.is(ofSigned) {
		// Moved up to the sign of 64 bits and down again, the sign of fewer bits is that of the number.
		unused := 64 - 8*len(s)
		return int(int64(bits<<unused) >> unused), true
	}
	return int(bits), bits <= math.MaxInt
}

// character returns the code of the character with which s, which is not empty, begins.
func character(s string) (value, size int, err api.Errno) {
	char, size := utf8.DecodeRuneInString(s)
	// The replacement character itself is a character too: it has more than one byte, other bytes are reported with one.
	if char == utf8.RuneError && size == 1 {
		return 0, 0, api.ErrArg
	}
	return int(char), size, api.OK
}

// ofSevens returns the number that is written in bytes of 7 bits at the beginning of s, which is not empty.
func ofSevens(s string) (value, size int, err api.Errno) {
	// A first byte of 128 could be left out.
	if s[0] == 128 {
		return 0, 0, api.ErrRange
	}
	for i := range len(s) {
		if i == maxSevens {
			return 0, 0, api.ErrRange
		}
		value = value*128 + int(s[i]%128)
		if s[i] < 128 {
			return value, i + 1, api.OK
		}
	}
	return 0, 0, api.ErrEnd
}

// takeText reads a string, which may be shorter than d asks for.
func (r *reader) takeText(d directive) {
	rest := r.bytes[r.place:]
	text, size := d.text(rest)
	if d.letter == 'H' {
		text, size = d.digits(rest)
	}
	r.items = append(r.items, Item{IsText: true, Text: strings.Clone(text)})
	r.place += size
}

// text returns the string with which s begins, and how many bytes of s it takes.
func (d directive) text(s string) (text string, size int) {
	size = len(s)
	if !d.all {
		size = min(d.count, size)
	}
	text = s[:size]
	if d.letter == 'A' {
		return strings.TrimRight(text, " \x00"), size
	}
	if d.letter != 'Z' {
		return text, size
	}
	text, _, zero := strings.Cut(text, "\x00")
	if zero && d.all {
		size = len(text) + 1
	}
	return text, size
}
