package text

import (
	"cabochon/api"
	"math"
	"slices"
	"strings"
	"testing"
)

// rows holds strings with how many characters and rows of broken bytes they have in utf-8.
var rows = []struct {
	s     string
	count int
}{
	{"", 0},
	{"a", 1},
	{"\xE2\x82", 1},
	{"\xE2\x82A", 2},
	{"\xE2\x82\xAC", 1},
	{"\xE0\x9F\x80", 3}, // not the shortest form
	{"\xE0\xA0", 1},
	{"\xE0\xBF\x80", 1},
	{"\xE0\xBFA", 2},
	{"\xE0\xC0", 2},
	{"\xED\x9F", 1},
	{"\xED\x9F\xBF", 1},
	{"\xED\x80A", 2},
	{"\xED\xA0\x80", 3}, // D800
	{"\xED\xBF\xBF", 3}, // DFFF
	{"\xEE\x80\x80", 1}, // E000
	{"\xF0\x8F\x80\x80", 4},
	{"\xF0\x90", 1},
	{"\xF0\x90\x80", 1},
	{"\xF0\xBF\xBF\xBF", 1},
	{"\xF0\x90\x80A", 2},
	{"\xF0\x90AA", 3},
	{"\xF4\x8F\xBF\xBF", 1},
	{"\xF4\x8F\xBF", 1},
	{"\xF4\x90\x80\x80", 4}, // 110000
	{"\xF4\x80\xE2", 2},
	{"\xC0\x80", 2},
	{"\xC1\xBF", 2},
	{"\xC2\x80", 1},
	{"\xC2", 1},
	{"\xC2\xC2\x80", 2},
	{"\xF5\x80\x80\x80", 4},
	{"\xF8\x80\x80\x80\x80", 5},
	{"\xFE\xFF", 2},
	{"\x80\xBF", 2},
	{"\xEF\xBF\xBD", 1}, // the replacement character
	{"\xEF\xBF\xBD\xEF\xBF", 2},
}

const long = 100001

// calls has each function that takes encodings and strings, with the strings and the encoding as they come.
func calls(s string, encoding int) map[string]func() (any, api.Errno) {
	return map[string]func() (any, api.Errno){
		"Valid":        func() (any, api.Errno) { v, e := Valid(s, encoding); return !v, e },
		"Codes":        func() (any, api.Errno) { v, e := Codes(s, encoding); return v == nil, e },
		"Length":       func() (any, api.Errno) { v, e := Length(s, encoding); return v == 0, e },
		"At":           func() (any, api.Errno) { v, e := At(s, encoding, 500000); return v == "", e },
		"Slice":        func() (any, api.Errno) { v, e := Slice(s, encoding, 500000, 1); return v == "", e },
		"Convert from": func() (any, api.Errno) { v, e := Convert(s, encoding, 0); return v == "", e },
		"Convert to":   func() (any, api.Errno) { v, e := Convert(s, 2, encoding); return v == "", e },
		"Lossy from":   func() (any, api.Errno) { v, e := Lossy(s, encoding, 1, "?"); return v == "", e },
		"Lossy to":     func() (any, api.Errno) { v, e := Lossy(s, 1, encoding, "?"); return v == "", e },
		"Upper":        func() (any, api.Errno) { v, e := Upper(s, encoding); return v == "", e },
		"Lower":        func() (any, api.Errno) { v, e := Lower(s, encoding); return v == "", e },
		"Reverse":      func() (any, api.Errno) { v, e := Reverse(s, encoding); return v == "", e },
		"Index":        func() (any, api.Errno) { v, e := Index(s, "no such part", encoding, 0); return v == 0, e },
	}
}

// P1.1
func TestArgumentsComeFirst(t *testing.T) {
	for _, encoding := range []int{-1, 3, 256, math.MaxInt, math.MinInt} {
		for name, call := range calls("a\xFF", encoding) {
			if zero, e := call(); zero != true || e != api.ErrArg {
				t.Error(name, "of encoding", encoding, zero, e)
			}
		}
		if s, e := Of([]int{-1}, encoding); s != "" || e != api.ErrArg {
			t.Error("Of", encoding, s, e)
		}
	}
	for encoding := range 3 {
		for name, call := range calls(strings.Repeat("\xFF", long), encoding) {
			if zero, e := call(); zero != true || e != api.ErrArg {
				t.Error(name, "of a long string", encoding, zero, e)
			}
		}
	}
}

// P1.1
func TestSecondStringsMayNotBeLong(t *testing.T) {
	much := strings.Repeat("a", long)
	if s, e := Scrub(much, ""); s != "" || e != api.ErrArg {
		t.Error("Scrub of a long string", len(s), e)
	}
	if s, e := Scrub("a", much); s != "" || e != api.ErrArg {
		t.Error("Scrub by a long string", len(s), e)
	}
	if s, e := Lossy("a", 2, 1, much); s != "" || e != api.ErrArg {
		t.Error("Lossy by a long string", len(s), e)
	}
	if n, e := Index("a", much, 0, 0); n != 0 || e != api.ErrArg {
		t.Error("Index of a long part", n, e)
	}
	if s, e := Tidy(much, "b"); s != "" || e != api.ErrArg {
		t.Error("Tidy of a long string", len(s), e)
	}
	if s, e := Tidy("b", much); s != "" || e != api.ErrArg {
		t.Error("Tidy of a long set", len(s), e)
	}
	if n := Compare(much, much+"a"); n != -1 {
		t.Error("Compare has no bound", n)
	}
}

// P1.1
func TestLongestArgumentsAndLongerResults(t *testing.T) {
	much := strings.Repeat("\xE9", long-1)
	for encoding := range 2 {
		if n, e := Length(much, encoding); n != long-1 || e != api.OK {
			t.Error("Length", n, e)
		}
	}
	if s, e := Convert(much, 1, 2); s != strings.Repeat("\u00E9", long-1) || e != api.OK {
		t.Error("Convert", len(s), e)
	}
	if s, e := Scrub(much, "123"); s != strings.Repeat("123", long-1) || e != api.OK {
		t.Error("Scrub", len(s), e)
	}
	if s, e := Of(slices.Repeat([]int{0x10FFFF}, long), 2); s != strings.Repeat("\U0010FFFF", long) || e != api.OK {
		t.Error("Of has no bound", len(s), e)
	}
	if s, e := Tidy(much, much); s != "" || e != api.OK {
		t.Error("Tidy", len(s), e)
	}
	if n, e := Index(much, much, 1, 0); n != 0 || e != api.OK {
		t.Error("Index", n, e)
	}
}

// P1.1
func TestOneErrorBeforeAnother(t *testing.T) {
	if s, e := Convert("\u20AC\xFF", 2, 1); s != "" || e != api.ErrForm {
		t.Error("ErrForm comes before ErrRange", s, e)
	}
	if s, e := Slice("a", 2, 5, -1); s != "" || e != api.ErrArg {
		t.Error("ErrArg comes before ErrNone", s, e)
	}
	if n, e := Index("a", "b", 2, 2); n != 0 || e != api.ErrArg {
		t.Error("ErrArg comes before ErrNone", n, e)
	}
	if s, e := Convert("\xFF", 2, 3); s != "" || e != api.ErrArg {
		t.Error("ErrArg comes before ErrForm", s, e)
	}
	if s, e := Convert("\u20AC", 2, -1); s != "" || e != api.ErrArg {
		t.Error("ErrArg comes before ErrRange", s, e)
	}
}

// P1.2
func TestRowsOfBrokenBytes(t *testing.T) {
	for _, r := range rows {
		if n, e := Length(r.s, 2); n != r.count || e != api.OK {
			t.Errorf("Length of % X: %d %d, not %d", r.s, n, e, r.count)
		}
	}
}

// P1.2
func TestValid(t *testing.T) {
	for _, s := range []string{"", "a\x00\x7F", "\u0080\u07FF\u0800\uD7FF\uE000\uFFFD\uFFFF", "\U00010000\U0010FFFF"} {
		if v, e := Valid(s, 2); !v || e != api.OK {
			t.Errorf("Valid of % X: %t %d", s, v, e)
		}
	}
	for _, s := range []string{"\x80", "a\xFF", "\xC1\x81", "\xE0\x80\x80", "\xED\xA0\x80", "\xF0\x80\x80\x80", "\xF4\x90\x80\x80", "\xE2\x82", "\xF5\x80\x80\x80"} {
		if v, e := Valid(s, 2); v || e != api.OK {
			t.Errorf("Valid of % X: %t %d", s, v, e)
		}
		for encoding := range 2 {
			if v, e := Valid(s, encoding); !v || e != api.OK {
				t.Errorf("Valid of % X in %d: %t %d", s, encoding, v, e)
			}
		}
	}
}

// P1.2
func TestCodes(t *testing.T) {
	good := []struct {
		s        string
		encoding int
		codes    []int
	}{
		{"", 0, nil}, {"", 1, nil}, {"", 2, nil},
		{"\x00a\x7F", 0, []int{0, 97, 127}},
		{"\x00\x7F\x80\xFF", 1, []int{0, 127, 128, 255}},
		{"a\u00E9", 2, []int{97, 233}},
		{"\u0080\u07FF\u0800\uD7FF\uE000\uFFFD\U00010000\U0010FFFF", 2, []int{0x80, 0x7FF, 0x800, 0xD7FF, 0xE000, 0xFFFD, 0x10000, 0x10FFFF}},
	}
	for _, g := range good {
		if codes, e := Codes(g.s, g.encoding); !slices.Equal(codes, g.codes) || e != api.OK {
			t.Errorf("Codes of % X in %d: %x %d", g.s, g.encoding, codes, e)
		}
		if s, e := Of(g.codes, g.encoding); s != g.s || e != api.OK {
			t.Errorf("Of %x in %d: % X %d", g.codes, g.encoding, s, e)
		}
	}
	for _, s := range []string{"\x80", "a\xFF", "\u00E9"} {
		if codes, e := Codes(s, 0); codes != nil || e != api.ErrForm {
			t.Errorf("Codes of binary % X: %x %d", s, codes, e)
		}
	}
	for _, s := range []string{"a\xE9", "\xE2\x82", "\xED\xA0\x80"} {
		if codes, e := Codes(s, 2); codes != nil || e != api.ErrForm {
			t.Errorf("Codes of broken % X: %x %d", s, codes, e)
		}
	}
}

// P1.2
func TestOfOutOfRange(t *testing.T) {
	for encoding, codes := range [][]int{{128, 255, 256}, {256, 0x20AC}, {0xD800, 0xDBFF, 0xDFFF, 0x110000}} {
		// A code is looked at whole: the last one has the low 32 bits of an a.
		for _, code := range append(codes, -1, math.MinInt, math.MaxInt, 1<<32+97) {
			if s, e := Of([]int{97, code, 98}, encoding); s != "" || e != api.ErrRange {
				t.Errorf("Of %x in %d: %q %d", code, encoding, s, e)
			}
		}
	}
	codes := []int{97, 98}
	if s, e := Of(codes[:1], 0); s != "a" || e != api.OK {
		t.Error("Of reads up to the length", s, e)
	}
}

// P1.2
func TestAt(t *testing.T) {
	s := "a\u00E9\xE2\x82\u20AC"
	list := []string{"a", "\u00E9", "\xE2\x82", "\u20AC"}
	for i, want := range list {
		for _, k := range []int{i, i - len(list)} {
			if got, e := At(s, 2, k); got != want || e != api.OK {
				t.Errorf("At %d: % X %d", k, got, e)
			}
		}
	}
	for _, i := range []int{4, 5, -5, math.MaxInt, math.MinInt} {
		if got, e := At(s, 2, i); got != "" || e != api.ErrNone {
			t.Errorf("At %d: % X %d", i, got, e)
		}
	}
	for encoding := range 3 {
		for _, i := range []int{0, -1} {
			if got, e := At("", encoding, i); got != "" || e != api.ErrNone {
				t.Errorf("At %d of an empty string: % X %d", i, got, e)
			}
		}
	}
	for encoding := range 2 {
		if got, e := At("\u00E9", encoding, -1); got != "\xA9" || e != api.OK {
			t.Errorf("At of bytes: % X %d", got, e)
		}
	}
}

// P1.2
func TestSlice(t *testing.T) {
	s := "a\u00E9\xE2\x82\u20AC"
	list := []string{"a", "\u00E9", "\xE2\x82", "\u20AC"}
	for from := range 5 {
		for _, n := range []int{0, 1, 2, 3, 4, 5, math.MaxInt} {
			want := strings.Join(list[from:from+min(n, 4-from)], "")
			if got, e := Slice(s, 2, from, n); got != want || e != api.OK {
				t.Errorf("Slice %d %d: % X %d", from, n, got, e)
			}
			if from == 4 {
				continue
			}
			if got, e := Slice(s, 2, from-4, n); got != want || e != api.OK {
				t.Errorf("Slice %d %d: % X %d", from-4, n, got, e)
			}
		}
	}
	for _, from := range []int{5, -5, math.MaxInt, math.MinInt} {
		if got, e := Slice(s, 2, from, 0); got != "" || e != api.ErrNone {
			t.Errorf("Slice %d: % X %d", from, got, e)
		}
	}
	for _, n := range []int{-1, math.MinInt} {
		if got, e := Slice(s, 2, 0, n); got != "" || e != api.ErrArg {
			t.Errorf("Slice of %d: % X %d", n, got, e)
		}
	}
	if got, e := Slice("", 0, 0, 1); got != "" || e != api.OK {
		t.Error("Slice of an empty string", got, e)
	}
	if got, e := Slice("", 0, -1, 1); got != "" || e != api.ErrNone {
		t.Error("Slice before an empty string", got, e)
	}
	if got, e := Slice("\u00E9a", 0, 1, 2); got != "\xA9a" || e != api.OK {
		t.Errorf("Slice of bytes: % X %d", got, e)
	}
}

// P1.2, P1.3, P1.4: each string of edge bytes by the definitions alone
func TestAllEdges(t *testing.T) {
	cutter := newCutter()
	eachEdge(4, func(s string) {
		pieces := cutter.cut(s)
		broken := slices.ContainsFunc(pieces, func(p piece) bool { return p.code < 0 })
		if v, e := Valid(s, 2); v == broken || e != api.OK {
			t.Fatalf("Valid of % X: %t %d", s, v, e)
		}
		if n, e := Length(s, 2); n != len(pieces) || e != api.OK {
			t.Fatalf("Length of % X: %d %d", s, n, e)
		}
		last := max(0, len(pieces)-1)
		if c, e := Slice(s, 2, last, 1); c != joined(pieces[last:]) || e != api.OK {
			t.Fatalf("Slice of % X: % X %d", s, c, e)
		}
		scrubbed := slices.Clone(pieces)
		for i, p := range scrubbed {
			if p.code < 0 {
				scrubbed[i].bytes = "<>"
			}
		}
		if c, e := Scrub(s, "<>"); c != joined(scrubbed) || e != api.OK {
			t.Fatalf("Scrub of % X: % X %d", s, c, e)
		}
		slices.Reverse(pieces)
		if c, e := Reverse(s, 2); c != joined(pieces) || e != api.OK {
			t.Fatalf("Reverse of % X: % X %d", s, c, e)
		}
	})
}
