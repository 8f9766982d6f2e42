package pack

import (
	"cabochon/api"
	"math"
	"slices"
	"strconv"
	"strings"
	"testing"
)

// unpacked calls Unpack, which has to return items.
func unpacked(t *testing.T, form, bytes string, want []Item) {
	t.Helper()
	if l, err := Unpack(form, bytes); !slices.Equal(l, want) || err != api.OK {
		t.Errorf("Unpack of %q, %.80q: %.200v (error %d), not %.200v", form, bytes, l, err, want)
	}
}

// notUnpacked calls Unpack, which has to return an error.
func notUnpacked(t *testing.T, form, bytes string, want api.Errno) {
	t.Helper()
	if l, err := Unpack(form, bytes); len(l) != 0 || err != want {
		t.Errorf("Unpack of %q, %.80q: %.200v, error %d, not %d", form, bytes, l, err, want)
	}
}

// P3.2
func TestUnpackNumbers(t *testing.T) {
	for _, l := range fixedLetters {
		least, most := edges(l.size, l.signed, l.turned, l.size == 8)
		unpacked(t, l.form, least, numbers(l.least))
		unpacked(t, l.form, most, numbers(l.most))
		unpacked(t, l.form, l.bytes, numbers(l.sample))
		unpacked(t, l.form+"1", l.bytes+"more bytes", numbers(l.sample))
		unpacked(t, l.form+"3", least+l.bytes+most, numbers(l.least, l.sample, l.most))
		unpacked(t, l.form+"*", most+least+l.bytes+l.bytes, numbers(l.most, l.least, l.sample, l.sample))
		unpacked(t, l.form+"*", "", nil)
		notUnpacked(t, l.form, "", api.ErrEnd)
		notUnpacked(t, l.form+"3", l.bytes+l.bytes, api.ErrEnd)
		notUnpacked(t, l.form+"1000", strings.Repeat(l.bytes, 999), api.ErrEnd)
		for size := 1; size < l.size; size++ {
			notUnpacked(t, l.form, l.bytes[:size], api.ErrEnd)
			notUnpacked(t, l.form+"2", l.bytes+l.bytes[:size], api.ErrEnd)
			unpacked(t, l.form+"*", l.bytes[:size], nil)
			unpacked(t, l.form+"*", l.bytes+l.bytes[:size], numbers(l.sample))
			unpacked(t, l.form+"*a*", l.bytes+l.bytes[:size], mixed(numbers(l.sample), words(l.bytes[:size])))
			unpacked(t, l.form+"*C*", most+"\x07", mixed(numbers(l.most), numbers(7)))
		}
		if l.signed {
			unpacked(t, l.form, strings.Repeat("\xFF", l.size), numbers(-1))
		}
	}
}

// P3.2: Q above the greatest int.
func TestUnpackGreatNumbers(t *testing.T) {
	great := strings.Repeat("\x00", 7) + "\x80"
	for _, bytes := range []string{great, strings.Repeat("\xFF", 8), "\x01\x02\x03\x04\x05\x06\x07\x81"} {
		notUnpacked(t, "Q", bytes, api.ErrRange)
		notUnpacked(t, "Q>", backward(bytes), api.ErrRange)
		notUnpacked(t, "Q*", strings.Repeat("\x00", 8)+bytes, api.ErrRange)
		notUnpacked(t, "Q2", bytes, api.ErrRange)
	}
	unpacked(t, "q", great, numbers(math.MinInt))
	unpacked(t, "Q", "\xFF"+great[:7], numbers(255))
	unpacked(t, "Q>", great[:7]+"\xFF", numbers(255))
	notUnpacked(t, "Q", great[1:], api.ErrEnd)
}

// P3.2
func TestUnpackSevens(t *testing.T) {
	all, allBytes := []int{}, ""
	for _, c := range sevenBits {
		unpacked(t, "w", c.bytes, numbers(c.n))
		unpacked(t, "w", c.bytes+"\x80", numbers(c.n))
		unpacked(t, "wC", c.bytes+"\x80", numbers(c.n, 128))
		all, allBytes = append(all, c.n), allBytes+c.bytes
		for size := 1; size < len(c.bytes); size++ {
			notUnpacked(t, "w", c.bytes[:size], api.ErrEnd)
			notUnpacked(t, "w*", c.bytes[:size], api.ErrEnd)
			notUnpacked(t, "w*", "\x01"+c.bytes[:size], api.ErrEnd)
			notUnpacked(t, "w2", "\x01"+c.bytes[:size], api.ErrEnd)
		}
	}
	unpacked(t, "w*", allBytes, numbers(all...))
	unpacked(t, "w"+strconv.Itoa(len(all)), allBytes, numbers(all...))
	unpacked(t, "w*", "", nil)
	notUnpacked(t, "w", "", api.ErrEnd)
	notUnpacked(t, "w3", "\x01\x02", api.ErrEnd)
}

// P3.2: w of more than nine bytes, and one that begins with 128.
func TestUnpackBadSevens(t *testing.T) {
	for _, nine := range []string{strings.Repeat("\xFF", 9), "\x81" + strings.Repeat("\x80", 8), "\xFF" + strings.Repeat("\x80", 8)} {
		for _, form := range []string{"w", "w*", "w2", "w1000"} {
			notUnpacked(t, form, nine[:8], api.ErrEnd)
			notUnpacked(t, form, nine, api.ErrEnd)
			notUnpacked(t, form, nine+"\x00", api.ErrRange)
			notUnpacked(t, form, nine+"\x7F", api.ErrRange)
			notUnpacked(t, form, nine+"\x80", api.ErrRange)
			notUnpacked(t, form, nine+strings.Repeat("\xFF", 100), api.ErrRange)
		}
	}
	for _, rest := range []string{"", "\x00", "\x01", "\x80", strings.Repeat("\x80", 7) + "\x01", strings.Repeat("\x80", 8), strings.Repeat("\xFF", 20)} {
		for _, form := range []string{"w", "w*", "w2"} {
			notUnpacked(t, form, "\x80"+rest, api.ErrRange)
		}
		notUnpacked(t, "w*", "\x01\x80"+rest, api.ErrRange)
		notUnpacked(t, "w2", "\x81\x00\x80"+rest, api.ErrRange)
	}
	unpacked(t, "w", "\x81\x80\x00", numbers(1<<14)) // 128 may stand behind the first byte
}

// P3.2
func TestUnpackCharacters(t *testing.T) {
	all, allBytes := []int{}, ""
	for _, c := range characters {
		unpacked(t, "U", c.bytes, numbers(c.code))
		unpacked(t, "U", c.bytes+"\xFF", numbers(c.code))
		unpacked(t, "UC", c.bytes+"\xFF", numbers(c.code, 255))
		all, allBytes = append(all, c.code), allBytes+c.bytes
		for size := 1; size < len(c.bytes); size++ {
			for _, rest := range []string{"", "a", "\xC3\xA9"} {
				notUnpacked(t, "U", c.bytes[:size]+rest, api.ErrArg)
				notUnpacked(t, "U*", c.bytes[:size]+rest, api.ErrArg)
				notUnpacked(t, "U*", "a"+c.bytes[:size]+rest, api.ErrArg)
				notUnpacked(t, "U2", "a"+c.bytes[:size]+rest, api.ErrArg)
			}
		}
	}
	unpacked(t, "U*", allBytes, numbers(all...))
	unpacked(t, "U"+strconv.Itoa(len(all)), allBytes, numbers(all...))
	unpacked(t, "U*", "", nil)
	notUnpacked(t, "U", "", api.ErrEnd)
	notUnpacked(t, "U3", "ab", api.ErrEnd)
	for _, none := range []string{
		"\x80", "\xBF", "\xC0\x80", "\xC1\xBF", "\xE0\x80\x80", "\xE0\x9F\xBF", "\xF0\x80\x80\x80", "\xF0\x8F\xBF\xBF",
		"\xED\xA0\x80", "\xED\xBF\xBF", "\xF4\x90\x80\x80", "\xF5\x80\x80\x80", "\xF8\x88\x80\x80\x80", "\xFC\x84\x80\x80\x80\x80", "\xFE", "\xFF",
	} {
		notUnpacked(t, "U", none, api.ErrArg)
		notUnpacked(t, "U*", "a"+none, api.ErrArg)
		notUnpacked(t, "U2", "a"+none, api.ErrArg)
	}
}

// P3.2
func TestUnpackTexts(t *testing.T) {
	for _, c := range []struct{ form, bytes, text, rest string }{
		{"a", "", "", ""}, {"a", "x", "x", ""}, {"a", "xy", "x", "y"}, {"a1", "xy", "x", "y"}, {"a3", "xy", "xy", ""}, {"a3", "xy\x00z", "xy\x00", "z"}, {"a3", "x  z", "x  ", "z"}, {"a1000", "xy", "xy", ""},
		{"a*", "", "", ""}, {"a*", "x \x00", "x \x00", ""}, {"a*", "\xFF\x80", "\xFF\x80", ""},
		{"A", "", "", ""}, {"A", "x", "x", ""}, {"A", " y", "", "y"}, {"A", "\x00y", "", "y"}, {"A1", "xy", "x", "y"}, {"A3", "xy", "xy", ""}, {"A3", "x  z", "x", "z"}, {"A3", "x\x00 z", "x", "z"}, {"A3", "x y ", "x y", " "}, {"A4", "x \x00 z", "x", "z"}, {"A1000", "xy ", "xy", ""},
		{"A*", "", "", ""}, {"A*", " \x00 \x00", "", ""}, {"A*", " x\x00y \x00", " x\x00y", ""}, {"A*", "\x00x", "\x00x", ""}, {"A*", "x\t\n", "x\t\n", ""},
		{"Z", "", "", ""}, {"Z", "x", "x", ""}, {"Z", "\x00y", "", "y"}, {"Z1", "xy", "x", "y"}, {"Z3", "xy", "xy", ""}, {"Z3", "xyzw", "xyz", "w"}, {"Z3", "x\x00yz", "x", "z"}, {"Z3", "\x00xyz", "", "z"}, {"Z3", "xy\x00z", "xy", "z"}, {"Z3", "x z", "x z", ""}, {"Z1000", "xy\x00z", "xy", ""},
		{"Z*", "", "", ""}, {"Z*", "xy", "xy", ""}, {"Z*", "xy\x00", "xy", ""}, {"Z*", "xy\x00z", "xy", "z"}, {"Z*", "\x00z\x00", "", "z\x00"}, {"Z*", "xy \x00\x00", "xy ", "\x00"},
		{"H", "", "", ""}, {"H", "\xAB", "a", ""}, {"H", "\xAB\xCD", "a", "\xCD"}, {"H1", "\xAB\xCD", "a", "\xCD"}, {"H2", "\xAB\xCD", "ab", "\xCD"}, {"H3", "\xAB\xCD\xEF", "abc", "\xEF"}, {"H4", "\xAB\xCD\xEF", "abcd", "\xEF"},
		{"H2", "", "", ""}, {"H3", "\xAB", "ab", ""}, {"H4", "\xAB", "ab", ""}, {"H1000", "\x01\x00", "0100", ""}, {"H999", "\x01\x00", "0100", ""},
		{"H*", "", "", ""}, {"H*", "\x01\x23\x45\x67\x89\xAB\xCD\xEF", "0123456789abcdef", ""},
	} {
		unpacked(t, c.form, c.bytes, words(c.text))
		unpacked(t, c.form+"a*", c.bytes, words(c.text, c.rest))
	}
	unpacked(t, "aAZH", "", words("", "", "", ""))
	unpacked(t, "Z*Z*Z*Z*", "a\x00b\x00c", words("a", "b", "c", ""))
	unpacked(t, "Z*A4", "ab\x00cd  ", words("ab", "cd"))
}

// P3.2
func TestUnpackZerosAndPlaces(t *testing.T) {
	for _, form := range []string{"", "x", "x3", "x2x", "@", "@0", "@1", "@3", "@3@", "@3@0", "@2x", "x3@3"} {
		unpacked(t, form, "abc", nil)
	}
	for _, form := range []string{"x4", "x3x", "x1000", "@4", "@1000", "@3x", "@4@0", "a2x2", "a*x"} {
		notUnpacked(t, form, "abc", api.ErrEnd)
	}
	for _, form := range []string{"", "@", "@0"} {
		unpacked(t, form, "", nil)
	}
	notUnpacked(t, "x", "", api.ErrEnd)
	notUnpacked(t, "@1", "", api.ErrEnd)
	unpacked(t, "xC", "\x01\x02\x03", numbers(2))
	unpacked(t, "x2C", "\x01\x02\x03", numbers(3))
	unpacked(t, "@2C", "\x01\x02\x03", numbers(3))
	unpacked(t, "C@C", "\x01\x02\x03", numbers(1, 1))
	unpacked(t, "C3@0C3", "\x01\x02\x03", numbers(1, 2, 3, 1, 2, 3))
	unpacked(t, "C3@1C", "\x01\x02\x03", numbers(1, 2, 3, 2))
	unpacked(t, "C@2C@1C", "\x01\x02\x03", numbers(1, 3, 2))
	unpacked(t, "@3a", "abc", words(""))
	unpacked(t, "x1000a", strings.Repeat("a", 1000)+"b", words("b"))
	unpacked(t, "@1000a", strings.Repeat("a", 1000)+"b", words("b"))
	notUnpacked(t, "x1000", strings.Repeat("a", 999), api.ErrEnd)
	notUnpacked(t, "@1000", strings.Repeat("a", 999), api.ErrEnd)
}

// P3.1: the first directive and item at which something is wrong.
func TestOrderOfUnpackErrors(t *testing.T) {
	notUnpacked(t, "LU", "\x01\x02\x03", api.ErrEnd)
	notUnpacked(t, "UL", "\xFF", api.ErrArg)
	notUnpacked(t, "wU", "\x80\xFF", api.ErrRange)
	notUnpacked(t, "Uw", "\xFF\x80", api.ErrArg)
	notUnpacked(t, "wx9", "\x80", api.ErrRange)
	notUnpacked(t, "x9w", "\x80", api.ErrEnd)
	notUnpacked(t, "@9w", "\x80", api.ErrEnd)
	notUnpacked(t, "C*U", "\xFF", api.ErrEnd)
	notUnpacked(t, "a*w", "\x80", api.ErrEnd)
	notUnpacked(t, "U3", "a\xFF", api.ErrArg)
	notUnpacked(t, "w3", "\x01\x80", api.ErrRange)
	notUnpacked(t, "w3", "\x01\x81", api.ErrEnd)
	notUnpacked(t, "aC", "a", api.ErrEnd)
	unpacked(t, "S*C U*", "\x01\x02\x03", numbers(0x201, 3))
	unpacked(t, "C* n* l* U* w*", "\xFF", numbers(255))
}

// P3.2: what is unpacked has no bound.
func TestUnpackLongBytes(t *testing.T) {
	long := strings.Repeat("x", 300001)
	unpacked(t, "a*", long, words(long))
	unpacked(t, "C", long, numbers('x'))
	unpacked(t, "H*", long, words(strings.Repeat("78", 300001)))
	unpacked(t, "C*", long, numbers(slices.Repeat([]int{'x'}, 300001)...))
	unpacked(t, "C1000", long, numbers(slices.Repeat([]int{'x'}, 1000)...))
}
