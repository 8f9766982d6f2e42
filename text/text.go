// Package text is layer 1, strings of bytes with an encoding: see shared/doc/01-text.md.
package text

import (
	"cabochon/api"
	"strings"
)

// maxBytes is the length of the longest string that is taken as an argument.
const maxBytes = 100000

// tooLong tells whether one of the strings is longer than an argument may be.
func tooLong(list ...string) bool {
	for _, s := range list {
		if len(s) > maxBytes {
			return true
		}
	}
	return false
}

// Valid tells whether s is valid in the encoding.
func Valid(s string, encoding int) (bool, api.Errno) {
	c, ok := codingOf(encoding)
	if !ok || tooLong(s) {
		return false, api.ErrArg
	}
	return c.valid(s), api.OK
}

// Codes returns the codes of the characters of s.
func Codes(s string, encoding int) ([]int, api.Errno) {
	c, ok := codingOf(encoding)
	if !ok || tooLong(s) {
		return nil, api.ErrArg
	}
	codes, ok := c.codes(s)
	if !ok {
		return nil, api.ErrForm
	}
	return codes, api.OK
}

// Of returns the string of the characters with these codes.
func Of(codes []int, encoding int) (string, api.Errno) {
	c, ok := codingOf(encoding)
	if !ok {
		return "", api.ErrArg
	}
	chars, ok := c.chars(codes)
	if !ok {
		return "", api.ErrRange
	}
	return join(chars), api.OK
}

// Length returns how many characters and rows of broken bytes s has.
func Length(s string, encoding int) (int, api.Errno) {
	c, ok := codingOf(encoding)
	if !ok || tooLong(s) {
		return 0, api.ErrArg
	}
	return len(c.bounds(s)) - 1, api.OK
}

// fromStart turns an index that may count from the end into one that counts from the start.
func fromStart(i, length int) int {
	if i < 0 {
		return i + length
	}
	return i
}

// At returns the character of s with index i, which counts from the end if it is below 0.
func At(s string, encoding, i int) (string, api.Errno) {
	c, ok := codingOf(encoding)
	if !ok || tooLong(s) {
		return "", api.ErrArg
	}
	places := c.bounds(s)
	length := len(places) - 1
	i = fromStart(i, length)
	if i < 0 || i >= length {
		return "", api.ErrNone
	}
	return strings.Clone(s[places[i]:places[i+1]]), api.OK
}

// Slice returns n characters of s from the index from on, or as many as there are.
func Slice(s string, encoding, from, n int) (string, api.Errno) {
	c, ok := codingOf(encoding)
	if !ok || tooLong(s) || n < 0 {
		return "", api.ErrArg
	}
	places := c.bounds(s)
	length := len(places) - 1
	from = fromStart(from, length)
	if from < 0 || from > length {
		return "", api.ErrNone
	}
	// The difference is bounded, where from+n might overflow.
	end := from + min(n, length-from)
	return strings.Clone(s[places[from]:places[end]]), api.OK
}

// Scrub returns the utf-8 string s with by for each row of broken bytes.
func Scrub(s, by string) (string, api.Errno) {
	return Lossy(s, asUTF8, asUTF8, by)
}

// Convert writes the codes of s in another encoding.
func Convert(s string, from, to int) (string, api.Errno) {
	if _, ok := codingOf(to); !ok {
		return "", api.ErrArg
	}
	codes, err := Codes(s, from)
	if err != api.OK {
		return "", err
	}
	return Of(codes, to)
}

// Lossy writes the codes of s in another encoding, and by for each character that has no code or that is not there.
func Lossy(s string, from, to int, by string) (string, api.Errno) {
	source, ok := codingOf(from)
	target, okTo := codingOf(to)
	if !ok || !okTo || tooLong(s, by) {
		return "", api.ErrArg
	}
	var pieces []string
	for _, code := range source.walk(s) {
		piece, ok := target.char(code)
		if !ok {
			piece = by
		}
		pieces = append(pieces, piece)
	}
	return join(pieces), api.OK
}

// shifted returns s with the codes that shift gives for its own. What has no code stays.
func shifted(s string, encoding int, shift func(code int) int) (string, api.Errno) {
	c, ok := codingOf(encoding)
	if !ok || tooLong(s) {
		return "", api.ErrArg
	}
	var pieces []string
	for old, code := range c.walk(s) {
		piece, ok := c.char(shift(code))
		if !ok {
			piece = old
		}
		pieces = append(pieces, piece)
	}
	return join(pieces), api.OK
}

// Upper returns s with capital letters for small ones.
func Upper(s string, encoding int) (string, api.Errno) {
	return shifted(s, encoding, func(code int) int {
		if code >= 'a' && code <= 'z' || code >= 0xE0 && code <= 0xFE && code != 0xF7 {
			return code - 0x20
		}
		return code
	})
}

// Lower returns s with small letters for capital ones.
func Lower(s string, encoding int) (string, api.Errno) {
	return shifted(s, encoding, func(code int) int {
		if code >= 'A' && code <= 'Z' || code >= 0xC0 && code <= 0xDE && code != 0xD7 {
			return code + 0x20
		}
		return code
	})
}

// Reverse returns the characters and the rows of broken bytes of s from the last to the first.
func Reverse(s string, encoding int) (string, api.Errno) {
	c, ok := codingOf(encoding)
	if !ok || tooLong(s) {
		return "", api.ErrArg
	}
	places := c.bounds(s)
	var pieces []string
	for i := len(places) - 1; i > 0; i-- {
		pieces = append(pieces, s[places[i-1]:places[i]])
	}
	return join(pieces), api.OK
}

// Index returns the index of the first character of s, from the index from on, at which part stands.
func Index(s, part string, encoding, from int) (int, api.Errno) {
	c, ok := codingOf(encoding)
	if !ok || tooLong(s, part) {
		return 0, api.ErrArg
	}
	places := c.bounds(s)
	if from < 0 || from >= len(places) {
		return 0, api.ErrArg
	}
	// The last place is the end of s, where just an empty part stands.
	for i := from; i < len(places); i++ {
		if strings.HasPrefix(s[places[i]:], part) {
			return i, api.OK
		}
	}
	return 0, api.ErrNone
}

// Tidy returns s without the bytes of the set at its two ends.
func Tidy(s, set string) (string, api.Errno) {
	if tooLong(s, set) {
		return "", api.ErrArg
	}
	var away [256]bool
	for i := range len(set) {
		away[set[i]] = true
	}
	for len(s) > 0 && away[s[0]] {
		s = s[1:]
	}
	for len(s) > 0 && away[s[len(s)-1]] {
		s = s[:len(s)-1]
	}
	return strings.Clone(s), api.OK
}

// Compare compares the bytes of s and t: -1 if s comes first, 0 if they are the same, 1 if t comes first.
func Compare(s, t string) int {
	return strings.Compare(s, t)
}
