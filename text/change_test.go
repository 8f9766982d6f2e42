package text

import (
	"cabochon/api"
	"math"
	"slices"
	"strings"
	"testing"
)

// P1.3
func TestScrub(t *testing.T) {
	list := []struct{ s, by, want string }{
		{"", "?", ""},
		{"a\u00E9\u20AC\U0010FFFF", "?", "a\u00E9\u20AC\U0010FFFF"},
		{"\xE2\x82A", "?", "?A"},
		{"\xE2\x82A", "", "A"},
		{"\xE2\x82\xE2\x82", "?", "??"},
		{"\xED\xA0\x80", "?", "???"},
		{"\xF0\x90\x80\xC0\x80", "?", "???"},
		{"\xEF\xBF\xBD\xEF\xBF", "?", "\xEF\xBF\xBD?"},
		{"a\xFFb", "\xFE", "a\xFEb"}, // as it is
		{"a\xE9b", "\u20AC", "a\u20ACb"},
	}
	for _, l := range list {
		if s, e := Scrub(l.s, l.by); s != l.want || e != api.OK {
			t.Errorf("Scrub of % X by % X: % X %d", l.s, l.by, s, e)
		}
	}
}

// P1.3
func TestConvert(t *testing.T) {
	list := []struct {
		s        string
		from, to int
		want     string
		err      api.Errno
	}{
		{"", 0, 2, "", api.OK},
		{"a\x7F", 0, 1, "a\x7F", api.OK},
		{"a\x7F", 0, 2, "a\x7F", api.OK},
		{"a\x80", 0, 0, "", api.ErrForm},
		{"a\x80", 0, 1, "", api.ErrForm},
		{"a\x80", 0, 2, "", api.ErrForm},
		{"\x80\xE9\xFF", 1, 2, "\u0080\u00E9\u00FF", api.OK},
		{"\x80\xE9\xFF", 1, 1, "\x80\xE9\xFF", api.OK},
		{"a\x7F", 1, 0, "a\x7F", api.OK},
		{"a\x80", 1, 0, "", api.ErrRange},
		{"\u00E9", 2, 1, "\xE9", api.OK},
		{"\u0100", 2, 1, "", api.ErrRange},
		{"\u0080", 2, 0, "", api.ErrRange},
		{"\x7F", 2, 0, "\x7F", api.OK},
		{"\u20AC\U0010FFFF", 2, 2, "\u20AC\U0010FFFF", api.OK},
		{"\xE2\x82", 2, 2, "", api.ErrForm},
		{"\xED\xA0\x80", 2, 1, "", api.ErrForm},
	}
	for _, l := range list {
		if s, e := Convert(l.s, l.from, l.to); s != l.want || e != l.err {
			t.Errorf("Convert of % X from %d to %d: % X %d", l.s, l.from, l.to, s, e)
		}
	}
}

// P1.3
func TestLossy(t *testing.T) {
	list := []struct {
		s        string
		from, to int
		by, want string
	}{
		{"", 2, 1, "?", ""},
		{"a\xFF\u20AC", 2, 1, "?", "a??"},
		{"\xE2\x82A\u00E9", 2, 1, "?", "?A\xE9"},
		{"\xE2\x82A\u00E9", 2, 0, "?", "?A?"},
		{"a\x80\xFF", 0, 0, "?", "a??"},
		{"a\x80\xFF", 0, 1, "?", "a??"},
		{"a\x80\xFF", 0, 2, "?", "a??"},
		{"a\x80\xFF", 1, 2, "?", "a\u0080\u00FF"},
		{"a\x80\xFF", 1, 0, "?", "a??"},
		{"\u00FF\u0100\u0101", 2, 1, "", "\xFF"},
		{"a\u0100", 2, 0, "\u20AC\xFF", "a\u20AC\xFF"}, // as it is, whatever it is converted to
	}
	for _, l := range list {
		if s, e := Lossy(l.s, l.from, l.to, l.by); s != l.want || e != api.OK {
			t.Errorf("Lossy of % X from %d to %d: % X %d", l.s, l.from, l.to, s, e)
		}
	}
}

// upperOf and lowerOf are the rules of the letters, written out.
func upperOf(code, encoding int) int {
	const small = "abcdefghijklmnopqrstuvwxyz"
	if code >= 0 && code < 128 && strings.IndexByte(small, byte(code)) >= 0 {
		return code - 32
	}
	if encoding != 0 && slices.Contains([]int{0xE0, 0xE1, 0xE2, 0xE3, 0xE4, 0xE5, 0xE6, 0xE7, 0xE8, 0xE9, 0xEA, 0xEB, 0xEC, 0xED, 0xEE, 0xEF, 0xF0, 0xF1, 0xF2, 0xF3, 0xF4, 0xF5, 0xF6, 0xF8, 0xF9, 0xFA, 0xFB, 0xFC, 0xFD, 0xFE}, code) {
		return code - 32
	}
	return code
}

func lowerOf(code, encoding int) int {
	if upperOf(code+32, encoding) == code {
		return code + 32
	}
	return code
}

// P1.4
func TestEachLetter(t *testing.T) {
	for encoding, end := range []int{0x80, 0x100, 0x3000} {
		for code := range end {
			s, _ := Of([]int{code}, encoding)
			upper, _ := Of([]int{upperOf(code, encoding)}, encoding)
			lower, _ := Of([]int{lowerOf(code, encoding)}, encoding)
			if got, e := Upper(s, encoding); got != upper || e != api.OK {
				t.Errorf("Upper of %x in %d: % X %d", code, encoding, got, e)
			}
			if got, e := Lower(s, encoding); got != lower || e != api.OK {
				t.Errorf("Lower of %x in %d: % X %d", code, encoding, got, e)
			}
		}
	}
}

// P1.4
func TestOtherBytesStay(t *testing.T) {
	for b := 0x80; b <= 0xFF; b++ {
		s := string([]byte{byte(b)})
		for encoding := 0; encoding <= 2; encoding += 2 { // of these two it has no code
			if got, e := Upper("a"+s, encoding); got != "A"+s || e != api.OK {
				t.Errorf("Upper of % X in %d: % X %d", s, encoding, got, e)
			}
			if got, e := Lower("A"+s, encoding); got != "a"+s || e != api.OK {
				t.Errorf("Lower of % X in %d: % X %d", s, encoding, got, e)
			}
		}
	}
	if got, e := Upper("\xE2\x82a\xC3\u00E9\xE0\xA0", 2); got != "\xE2\x82A\xC3\u00C9\xE0\xA0" || e != api.OK {
		t.Errorf("Upper of broken bytes: % X %d", got, e)
	}
	if got, e := Lower("\xE2\x82A\xC3\u00C9\xE0\xA0", 2); got != "\xE2\x82a\xC3\u00E9\xE0\xA0" || e != api.OK {
		t.Errorf("Lower of broken bytes: % X %d", got, e)
	}
	if got, e := Upper("\u00E9a", 0); got != "\u00E9A" || e != api.OK {
		t.Errorf("Upper of binary: % X %d", got, e)
	}
}

// P1.4
func TestReverse(t *testing.T) {
	list := []struct {
		s        string
		encoding int
		want     string
	}{
		{"", 2, ""},
		{"a", 2, "a"},
		{"a\u00E9\u20AC\U0010FFFF", 2, "\U0010FFFF\u20AC\u00E9a"},
		{"\xE2\x82A", 2, "A\xE2\x82"},
		{"\xED\xA0\x80", 2, "\x80\xA0\xED"},
		{"\xF0\x90\x80\xC0\x80", 2, "\x80\xC0\xF0\x90\x80"},
		{"\u00E9a", 0, "a\xA9\xC3"},
		{"\u00E9a", 1, "a\xA9\xC3"},
	}
	for _, l := range list {
		if s, e := Reverse(l.s, l.encoding); s != l.want || e != api.OK {
			t.Errorf("Reverse of % X in %d: % X %d", l.s, l.encoding, s, e)
		}
	}
}

// P1.4
func TestIndex(t *testing.T) {
	list := []struct {
		s, part        string
		encoding, from int
		want           int
		err            api.Errno
	}{
		{"\u00E9a\u00E9", "\u00E9", 2, 0, 0, api.OK},
		{"\u00E9a\u00E9", "\u00E9", 2, 1, 2, api.OK},
		{"\u00E9a\u00E9", "\u00E9", 2, 2, 2, api.OK},
		{"\u00E9a\u00E9", "\u00E9", 2, 3, 0, api.ErrNone},
		{"\u00E9a\u00E9", "\u00E9", 2, 4, 0, api.ErrArg},
		{"\u00E9a\u00E9", "\u00E9", 2, -1, 0, api.ErrArg},
		{"\u00E9a\u00E9", "\u00E9", 0, 1, 3, api.OK},
		{"\u00E9", "\xA9", 0, 0, 1, api.OK},
		{"\u00E9", "\xA9", 1, 0, 1, api.OK},
		{"\u00E9", "\xA9", 2, 0, 0, api.ErrNone}, // no character begins there
		{"\u00E9", "\xC3", 2, 0, 0, api.OK},      // its bytes stand there
		{"\u00E9\xA9", "\xA9", 2, 0, 1, api.OK},
		{"\xE2\x82", "\x82", 2, 0, 0, api.ErrNone}, // E2 82 is one row
		{"\xE2\x82\xE2\x82", "\xE2\x82", 2, 1, 1, api.OK},
		{"a\xE2\x82A", "A", 2, 0, 2, api.OK},
		{"aab", "ab", 2, 0, 1, api.OK},
		{"ab", "abc", 2, 0, 0, api.ErrNone},
		{"ab", "b", 2, 2, 0, api.ErrNone},
		{"ab", "", 2, 0, 0, api.OK},
		{"ab", "", 2, 1, 1, api.OK},
		{"ab", "", 2, 2, 2, api.OK},
		{"ab", "", 2, 3, 0, api.ErrArg},
		{"ab", "", 2, math.MaxInt, 0, api.ErrArg},
		{"ab", "", 2, math.MinInt, 0, api.ErrArg},
		{"\xE2\x82\xE2", "", 2, 2, 2, api.OK},
		{"", "", 0, 0, 0, api.OK},
		{"", "", 0, 1, 0, api.ErrArg},
		{"", "a", 0, 0, 0, api.ErrNone},
	}
	for _, l := range list {
		if i, e := Index(l.s, l.part, l.encoding, l.from); i != l.want || e != l.err {
			t.Errorf("Index of % X, % X in %d from %d: %d %d", l.s, l.part, l.encoding, l.from, i, e)
		}
	}
}

// P1.4
func TestTidy(t *testing.T) {
	list := []struct{ s, set, want string }{
		{"", "", ""},
		{"", " ", ""},
		{" a ", "", " a "},
		{"  x ", " ", "x"},
		{"  ", " ", ""},
		{"ab c ba", "ab", " c "},
		{"ab c ba", "ba ", "c"},
		{"\x00\xFFa\xFF\x00", "\xFF\x00", "a"},
		{"\u00E9a\u00E8", "\u00E9", "a\u00E8"}, // bytes of the set, not characters
		{"\u00E8a\u00E9", "\u00E9", "\xA8a"},
	}
	for _, l := range list {
		if s, e := Tidy(l.s, l.set); s != l.want || e != api.OK {
			t.Errorf("Tidy of % X, % X: % X %d", l.s, l.set, s, e)
		}
	}
}

// P1.4
func TestCompare(t *testing.T) {
	ascending := []string{"", "\x00", "\x00\x00", "A", "a", "aa", "ab", "b", "\x7F", "\x80", "\u00E9", "\u20AC", "\xFF"}
	for i, s := range ascending {
		for k, o := range ascending {
			want := 0
			if i < k {
				want = -1
			} else if i > k {
				want = 1
			}
			if got := Compare(s, o); got != want {
				t.Errorf("Compare of % X and % X: %d", s, o, got)
			}
		}
	}
}

// P1.5
func TestThereAndBack(t *testing.T) {
	eachEdge(3, func(s string) {
		for encoding := range 3 {
			valid, _ := Valid(s, encoding)
			if codes, e := Codes(s, encoding); e == api.OK {
				if again, e := Of(codes, encoding); again != s || e != api.OK {
					t.Errorf("Of of Codes of % X in %d: % X %d", s, encoding, again, e)
				}
				if n, _ := Length(s, encoding); n != len(codes) {
					t.Errorf("Length of % X in %d: %d, not %d", s, encoding, n, len(codes))
				}
			} else if valid && encoding != 0 {
				t.Errorf("Codes of % X in %d: %d", s, encoding, e)
			}
			turned, _ := Reverse(s, encoding)
			if again, _ := Reverse(turned, encoding); valid && again != s {
				t.Errorf("Reverse of Reverse of % X in %d: % X", s, encoding, again)
			}
			for to := range 3 {
				there, e := Convert(s, encoding, to)
				if e != api.OK {
					continue
				}
				if back, e := Convert(there, to, encoding); back != s || e != api.OK {
					t.Errorf("Convert of % X from %d to %d and back: % X %d", s, encoding, to, back, e)
				}
			}
		}
		for _, by := range []string{"", "?", "\u20AC"} {
			scrubbed, _ := Scrub(s, by)
			if valid, _ := Valid(scrubbed, 2); !valid {
				t.Errorf("Scrub of % X is not valid: % X", s, scrubbed)
			}
			if valid, _ := Valid(s, 2); valid && scrubbed != s {
				t.Errorf("Scrub of the valid % X: % X", s, scrubbed)
			}
		}
	})
}

// P1.5
func TestEachCodeThereAndBack(t *testing.T) {
	for code := range 0x110000 {
		s, e := Of([]int{code}, 2)
		if code >= 0xD800 && code <= 0xDFFF {
			if e != api.ErrRange {
				t.Fatalf("Of %x: %d", code, e)
			}
			continue
		}
		codes, _ := Codes(s, 2)
		if s != shortest(code) || !slices.Equal(codes, []int{code}) {
			t.Fatalf("Of %x: % X with the codes %x", code, s, codes)
		}
	}
}
