package text

import "strings"

// utf8Sets returns the codes of all characters of utf-8 by their bytes, and all beginnings of characters that are no whole ones, as the chapter defines them.
func utf8Sets() (chars map[string]int, starts map[string]bool) {
	chars, starts = map[string]int{}, map[string]bool{}
	for code := 0; code <= 0x10FFFF; code++ {
		if code >= 0xD800 && code <= 0xDFFF {
			continue
		}
		char := shortest(code)
		chars[char] = code
		for n := 1; n < len(char); n++ {
			starts[char[:n]] = true
		}
	}
	return chars, starts
}

// shortest returns the shortest form of a code, by arithmetic alone.
func shortest(code int) string {
	more := func(shift int) byte { return byte(0x80 + code>>shift&0x3F) }
	switch {
	case code < 0x80:
		return string([]byte{byte(code)})
	case code < 0x800:
		return string([]byte{byte(0xC0 + code>>6), more(0)})
	case code < 0x10000:
		return string([]byte{byte(0xE0 + code>>12), more(6), more(0)})
	}
	return string([]byte{byte(0xF0 + code>>18), more(12), more(6), more(0)})
}

// piece is a character, or a row of broken bytes (code -1).
type piece struct {
	bytes string
	code  int
}

// cutter cuts strings by the definitions of the chapter alone.
type cutter struct {
	chars  map[string]int
	starts map[string]bool
}

func newCutter() cutter {
	chars, starts := utf8Sets()
	return cutter{chars, starts}
}

func (c cutter) cut(s string) []piece {
	var pieces []piece
	for len(s) > 0 {
		next := c.first(s)
		pieces = append(pieces, next)
		s = s[len(next.bytes):]
	}
	return pieces
}

func (c cutter) first(s string) piece {
	longest := 1
	for n := 1; n <= 4 && n <= len(s); n++ {
		if code, ok := c.chars[s[:n]]; ok {
			return piece{s[:n], code}
		}
		if c.starts[s[:n]] {
			longest = n
		}
	}
	return piece{s[:longest], -1}
}

func joined(pieces []piece) string {
	var b strings.Builder
	for _, p := range pieces {
		b.WriteString(p.bytes)
	}
	return b.String()
}

// edgeBytes are the bytes at which what utf-8 lets changes.
const edgeBytes = "\x00A\x7F\x80\x8F\x90\x9F\xA0\xBF\xC0\xC1\xC2\xDF\xE0\xE1\xEC\xED\xEE\xEF\xF0\xF1\xF3\xF4\xF5\xFF"

// eachEdge calls do with all strings of edge bytes up to a length.
func eachEdge(most int, do func(s string)) {
	var grow func(s string)
	grow = func(s string) {
		do(s)
		if len(s) == most {
			return
		}
		for i := range len(edgeBytes) {
			grow(s + edgeBytes[i:i+1])
		}
	}
	grow("")
}
