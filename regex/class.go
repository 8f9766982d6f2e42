package regex

import (
	"strings"
)

// set is a set of bytes.
type set [256]bool

// setOf returns the bytes of which something is true.
func setOf(holds func(byte) bool) set {
	var s set
	for i := range s {
		s[i] = holds(byte(i))
	}
	return s
}

// one returns the set of a byte.
func one(c byte) set {
	return fromTo(c, c)
}

func fromTo(first, last byte) set {
	return setOf(func(c byte) bool { return c >= first && c <= last })
}

func (s set) others() set {
	return setOf(func(c byte) bool { return !s[c] })
}

func (s set) with(o set) set {
	return setOf(func(c byte) bool { return s[c] || o[c] })
}

func isDigit(c byte) bool {
	return c >= '0' && c <= '9'
}

func isWord(c byte) bool {
	return isDigit(c) || c >= 'a' && c <= 'z' || c >= 'A' && c <= 'Z' || c == '_'
}

func isBlank(c byte) bool {
	return strings.IndexByte(" \t\n", c) >= 0
}

// many reads an escape of many bytes, and returns false if there is none.
func (r *reader) many() (set, bool) {
	switch {
	case r.skip(`\d`):
		return setOf(isDigit), true
	case r.skip(`\D`):
		return setOf(isDigit).others(), true
	case r.skip(`\w`):
		return setOf(isWord), true
	case r.skip(`\W`):
		return setOf(isWord).others(), true
	case r.skip(`\s`):
		return setOf(isBlank), true
	case r.skip(`\S`):
		return setOf(isBlank).others(), true
	}
	return set{}, false
}

// escaped reads what stands behind the \ of an escape of one byte.
func (r *reader) escaped() byte {
	switch c := r.next(); {
	case c == 'n':
		return '\n'
	case c == 't':
		return '\t'
	default:
		require(isSpecial(c) || c == '-')
		return c
	}
}

// single reads a byte of a class, or an escape of one.
func (r *reader) single() byte {
	if r.skip(`\`) {
		return r.escaped()
	}
	return r.next()
}

// class reads what stands behind the [ of a class. What is first in it, a ] or a - too, is itself.
func (r *reader) class() set {
	isOthers := r.skip("^")
	bytes := r.member()
	for !r.skip("]") {
		require(!r.has("-") || r.has("-]"))
		bytes = bytes.with(r.member())
	}
	if isOthers {
		return bytes.others()
	}
	return bytes
}

// member reads a byte of a class, an escape, or a range.
func (r *reader) member() set {
	if bytes, ok := r.many(); ok {
		return bytes
	}
	first := r.single()
	if r.has("-]") || !r.skip("-") {
		return one(first)
	}
	last := r.single()
	require(first <= last)
	return fromTo(first, last)
}
