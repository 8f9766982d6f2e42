package text

import (
	"iter"
	"strings"
	"unicode/utf8"
)

// The encodings.
const (
	asBinary = 0
	asLatin1 = 1
	asUTF8   = 2
)

// noCode stands for the code of what has none: broken bytes, and binary bytes above 127. No encoding has a character for it.
const noCode = -1

// coding is what an encoding does.
type coding struct {
	// valid tells whether s is a row of characters.
	valid func(s string) bool
	// next returns the size of the character, or of the row of broken bytes, with which s begins, and its code. s is not empty.
	next func(s string) (size, code int)
	// char returns the character of a code, and false if there is none.
	char func(code int) (string, bool)
}

// codingOf returns what an encoding does, and false if there is no such encoding.
func codingOf(encoding int) (coding, bool) {
	switch encoding {
	case asBinary:
		return byteCoding(0x80), true
	case asLatin1:
		return byteCoding(0x100), true
	case asUTF8:
		return coding{valid: utf8.ValidString, next: nextUTF8, char: charUTF8}, true
	}
	return coding{}, false
}

// byteCoding is an encoding whose characters are single bytes, of which those below a limit are their own codes.
func byteCoding(limit int) coding {
	return coding{
		valid: func(string) bool { return true },
		next: func(s string) (int, int) {
			if code := int(s[0]); code < limit {
				return 1, code
			}
			return 1, noCode
		},
		char: func(code int) (string, bool) {
			if code < 0 || code >= limit {
				return "", false
			}
			return string([]byte{byte(code)}), true
		},
	}
}

func nextUTF8(s string) (size, code int) {
	r, size := utf8.DecodeRuneInString(s)
	// The replacement character itself is a character too: it has more than one byte, broken ones are reported with one.
	if r == utf8.RuneError && size == 1 {
		return brokenSize(s), noCode
	}
	return size, int(r)
}

// brokenSize returns the size of the row of broken bytes with which s begins.
func brokenSize(s string) int {
	size := 1
	// FullRune is false just of the beginnings of characters: the library counts broken bytes as full.
	for size < len(s) && !utf8.FullRuneInString(s[:size+1]) {
		size++
	}
	return size
}

func charUTF8(code int) (string, bool) {
	// The bounds come first: a code may not fit into a rune.
	if code < 0 || code > utf8.MaxRune || !utf8.ValidRune(rune(code)) {
		return "", false
	}
	return string(rune(code)), true
}

// walk goes over the characters and the rows of broken bytes of s, each with its code.
func (c coding) walk(s string) iter.Seq2[string, int] {
	return func(yield func(string, int) bool) {
		for rest := s; len(rest) > 0; {
			size, code := c.next(rest)
			if !yield(rest[:size], code) {
				return
			}
			rest = rest[size:]
		}
	}
}

// bounds returns the places at which the characters and the rows of broken bytes of s begin, and behind them the length of s.
func (c coding) bounds(s string) []int {
	places := []int{0}
	end := 0
	for char := range c.walk(s) {
		end += len(char)
		places = append(places, end)
	}
	return places
}

// codes returns the codes of s, and false if one of its characters has none.
func (c coding) codes(s string) ([]int, bool) {
	var codes []int
	for _, code := range c.walk(s) {
		if code == noCode {
			return nil, false
		}
		codes = append(codes, code)
	}
	return codes, true
}

// chars returns the characters of the codes, and false if one of them has none.
func (c coding) chars(codes []int) ([]string, bool) {
	list := make([]string, 0, len(codes))
	for _, code := range codes {
		char, ok := c.char(code)
		if !ok {
			return nil, false
		}
		list = append(list, char)
	}
	return list, true
}

// join returns the pieces as one string. Unlike strings.Join it returns new memory for a single piece too.
func join(pieces []string) string {
	size := 0
	for _, piece := range pieces {
		size += len(piece)
	}
	var b strings.Builder
	b.Grow(size)
	for _, piece := range pieces {
		b.WriteString(piece)
	}
	return b.String()
}
