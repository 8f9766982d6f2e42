package format

import (
	"strconv"
	"strings"
)

const (
	maxForm = 2000
	maxSize = 1000
)

// What the pieces of a field are made of.
const (
	nameBytes  = "abcdefghijklmnopqrstuvwxyz_"
	flagBytes  = "-0+ #"
	digitBytes = "0123456789"
	// textLetters are the letters of fields that show no number.
	textLetters = "scp"
)

// piece is a piece of a format: a field, or a text without any.
type piece struct {
	isField bool
	field   field
	text    string
}

// field is a % of a format with what stands behind it.
type field struct {
	name  string
	flags string
	// width is 0 where there is none; a precision of 0 is not the same as none.
	width        size
	hasPrecision bool
	precision    size
	letter       byte
	// isNumber tells that the letter shows numbers, and base how.
	isNumber bool
	base     base
}

// size is a width or a precision.
type size struct {
	// asked stands for a *: the count is an argument.
	asked bool
	count int
}

// base is how a letter shows numbers.
type base struct {
	radix  int
	prefix string
}

// bases returns the bases and prefixes of the letters that show numbers.
func bases() map[byte]base {
	return map[byte]base{
		'd': {10, ""}, 'x': {16, "0x"}, 'X': {16, "0X"}, 'o': {8, "0"}, 'b': {2, "0b"},
	}
}

// has tells whether this flag is one of f's.
func (f field) has(flag string) bool {
	return strings.Contains(f.flags, flag)
}

// takes returns how many arguments f takes from the front.
func (f field) takes() int {
	count := 0
	for _, takes := range []bool{f.width.asked, f.precision.asked, f.name == ""} {
		if takes {
			count++
		}
	}
	return count
}

// read returns the pieces of a format, and false if it is malformed.
func read(form string) ([]piece, bool) {
	if len(form) > maxForm {
		return nil, false
	}
	r := reader{rest: form, bases: bases()}
	var list []piece
	named, unnamed := false, false
	for r.rest != "" {
		p, ok := r.piece()
		if !ok {
			return nil, false
		}
		list = append(list, p)
		named = named || p.field.name != ""
		unnamed = unnamed || p.isField && p.field.name == ""
	}
	return list, !named || !unnamed
}

// reader has what is not yet read of a format.
type reader struct {
	rest  string
	bases map[byte]base
}

// skip reads s if it is next, and tells whether it is.
func (r *reader) skip(s string) bool {
	rest, ok := strings.CutPrefix(r.rest, s)
	r.rest = rest
	return ok
}

// span reads as many bytes as are some of these.
func (r *reader) span(bytes string) string {
	whole := r.rest
	r.rest = strings.TrimLeft(whole, bytes)
	return whole[:len(whole)-len(r.rest)]
}

// piece reads a field, or the text in front of the next one, and returns false if it is malformed.
func (r *reader) piece() (piece, bool) {
	if r.skip("%%") {
		return piece{text: "%"}, true
	}
	if r.skip("%") {
		f, ok := r.field()
		return piece{isField: true, field: f}, ok
	}
	text, _, _ := strings.Cut(r.rest, "%")
	r.rest = r.rest[len(text):]
	return piece{text: text}, true
}

// field reads what stands behind the % of a field, and returns false if it is malformed.
func (r *reader) field() (field, bool) {
	var f field
	if r.skip("<") {
		f.name = r.span(nameBytes)
		if f.name == "" || !r.skip(">") {
			return field{}, false
		}
	}
	// A zero in front of the width is a flag, so that no width begins with one.
	f.flags = r.span(flagBytes)
	var ok bool
	if f.width, ok = r.size(); !ok {
		return field{}, false
	}
	if f.hasPrecision = r.skip("."); f.hasPrecision {
		if f.precision, ok = r.size(); !ok {
			return field{}, false
		}
	}
	if f.name != "" && (f.width.asked || f.precision.asked) {
		return field{}, false
	}
	ok = r.letter(&f)
	return f, ok
}

// size reads a count, 0 if there is none, or the * in its place, and returns false if it is too large.
func (r *reader) size() (size, bool) {
	if r.skip("*") {
		return size{asked: true}, true
	}
	digits := r.span(digitBytes)
	if digits == "" {
		return size{}, true
	}
	// Of digits that are too many for a number there is an error too.
	count, err := strconv.Atoi(digits)
	return size{count: count}, err == nil && count <= maxSize
}

// letter reads the letter of f, and returns false if there is none.
func (r *reader) letter(f *field) bool {
	if r.rest == "" {
		return false
	}
	f.letter = r.rest[0]
	r.rest = r.rest[1:]
	f.base, f.isNumber = r.bases[f.letter]
	return f.isNumber || strings.IndexByte(textLetters, f.letter) >= 0
}
