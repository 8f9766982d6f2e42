package pack

import (
	"cabochon/api"
	"math"
	"slices"
	"strconv"
	"strings"
	"testing"
)

func numbers(list ...int) []Item {
	var items []Item
	for _, n := range list {
		items = append(items, Item{Int: n})
	}
	return items
}

func words(list ...string) []Item {
	var items []Item
	for _, s := range list {
		items = append(items, Item{IsText: true, Text: s})
	}
	return items
}

func mixed(lists ...[]Item) []Item {
	return slices.Concat(lists...)
}

// packed calls Pack, which has to return bytes, and Used.
func packed(t *testing.T, form string, items []Item, want string, used int) {
	t.Helper()
	before := slices.Clone(items)
	if s, err := Pack(form, items); s != want || err != api.OK {
		t.Errorf("Pack of %q, %.200v: %.200q (error %d), not %.200q", form, items, s, err, want)
	}
	if n, err := Used(form, items); n != used || err != api.OK {
		t.Errorf("Used of %q, %.200v: %d (error %d), not %d", form, items, n, err, used)
	}
	if !slices.Equal(items, before) {
		t.Errorf("the items of %q have changed", form)
	}
}

// notPacked calls Pack and Used, which have to return an error.
func notPacked(t *testing.T, form string, items []Item, want api.Errno) {
	t.Helper()
	if s, err := Pack(form, items); s != "" || err != want {
		t.Errorf("Pack of %q, %.200v: %.200q, error %d, not %d", form, items, s, err, want)
	}
	if n, err := Used(form, items); n != 0 || err != want {
		t.Errorf("Used of %q, %.200v: %d, error %d, not %d", form, items, n, err, want)
	}
}

// fixedLetters has the numbers of a fixed size: the least and the greatest one of each, and a number of all different bytes.
var fixedLetters = []struct {
	form           string
	size           int
	signed, turned bool
	least, most    int
	sample         int
	bytes          string
}{
	{"C", 1, false, false, 0, 255, 0xFE, "\xFE"},
	{"c", 1, true, false, -128, 127, -2, "\xFE"},
	{"S", 2, false, false, 0, 65535, 0xFE01, "\x01\xFE"},
	{"s", 2, true, false, -32768, 32767, -0x1FF, "\x01\xFE"},
	{"L", 4, false, false, 0, 1<<32 - 1, 0xFE030201, "\x01\x02\x03\xFE"},
	{"l", 4, true, false, -1 << 31, 1<<31 - 1, -0x1FCFDFF, "\x01\x02\x03\xFE"},
	{"Q", 8, false, false, 0, math.MaxInt, 0x7E07060504030201, "\x01\x02\x03\x04\x05\x06\x07\x7E"},
	{"q", 8, true, false, math.MinInt, math.MaxInt, -0x1F8F9FAFBFCFDFF, "\x01\x02\x03\x04\x05\x06\x07\xFE"},
	{"S>", 2, false, true, 0, 65535, 0x01FE, "\x01\xFE"},
	{"s>", 2, true, true, -32768, 32767, -0x1FF, "\xFE\x01"},
	{"L>", 4, false, true, 0, 1<<32 - 1, 0x010203FE, "\x01\x02\x03\xFE"},
	{"l>", 4, true, true, -1 << 31, 1<<31 - 1, -0x1FCFDFF, "\xFE\x03\x02\x01"},
	{"Q>", 8, false, true, 0, math.MaxInt, 0x01020304050607FE, "\x01\x02\x03\x04\x05\x06\x07\xFE"},
	{"q>", 8, true, true, math.MinInt, math.MaxInt, -0x1F8F9FAFBFCFDFF, "\xFE\x07\x06\x05\x04\x03\x02\x01"},
	{"n", 2, false, true, 0, 65535, 0x01FE, "\x01\xFE"},
	{"N", 4, false, true, 0, 1<<32 - 1, 0x010203FE, "\x01\x02\x03\xFE"},
}

// edges returns the bytes of the least and of the greatest number of a letter.
func edges(size int, signed, turned, toInt bool) (least, most string) {
	least, most = strings.Repeat("\x00", size), strings.Repeat("\xFF", size)
	if signed {
		least, most = strings.Repeat("\x00", size-1)+"\x80", strings.Repeat("\xFF", size-1)+"\x7F"
	} else if toInt {
		most = strings.Repeat("\xFF", size-1) + "\x7F"
	}
	if turned {
		least, most = backward(least), backward(most)
	}
	return least, most
}

func backward(s string) string {
	bytes := []byte(s)
	slices.Reverse(bytes)
	return string(bytes)
}

// P3.2
func TestPackNumbers(t *testing.T) {
	for _, l := range fixedLetters {
		least, most := edges(l.size, l.signed, l.turned, l.size == 8)
		packed(t, l.form, numbers(l.least), least, 1)
		packed(t, l.form, numbers(l.most), most, 1)
		packed(t, l.form, numbers(0), strings.Repeat("\x00", l.size), 1)
		packed(t, l.form, numbers(l.sample), l.bytes, 1)
		packed(t, l.form+"1", numbers(l.sample, 1), l.bytes, 1)
		packed(t, l.form+"3", numbers(l.least, l.sample, l.most), least+l.bytes+most, 3)
		packed(t, l.form+"*", numbers(l.most, l.sample, l.least, l.sample), most+l.bytes+least+l.bytes, 4)
		packed(t, l.form+"*", nil, "", 0)
		if l.least > math.MinInt {
			notPacked(t, l.form, numbers(l.least-1), api.ErrRange)
			notPacked(t, l.form, numbers(math.MinInt), api.ErrRange)
			notPacked(t, l.form+"*", numbers(l.most, l.least-1), api.ErrRange)
		}
		if l.most < math.MaxInt {
			notPacked(t, l.form, numbers(l.most+1), api.ErrRange)
			notPacked(t, l.form, numbers(math.MaxInt), api.ErrRange)
			notPacked(t, l.form, numbers(1<<(8*l.size)), api.ErrRange)
			notPacked(t, l.form+"2", numbers(l.least, l.most+1), api.ErrRange)
		}
	}
}

// sevenBits has numbers with their bytes of 7 bits.
var sevenBits = []struct {
	n     int
	bytes string
}{
	{0, "\x00"}, {1, "\x01"}, {127, "\x7F"},
	{128, "\x81\x00"}, {129, "\x81\x01"}, {300, "\x82\x2C"}, {1<<14 - 1, "\xFF\x7F"},
	{1 << 14, "\x81\x80\x00"}, {1<<21 - 1, "\xFF\xFF\x7F"},
	{1 << 21, "\x81\x80\x80\x00"}, {1<<28 - 1, "\xFF\xFF\xFF\x7F"},
	{1 << 28, "\x81\x80\x80\x80\x00"}, {1<<35 - 1, "\xFF\xFF\xFF\xFF\x7F"},
	{1 << 35, "\x81\x80\x80\x80\x80\x00"}, {1<<42 - 1, "\xFF\xFF\xFF\xFF\xFF\x7F"},
	{1 << 42, "\x81\x80\x80\x80\x80\x80\x00"}, {1<<49 - 1, "\xFF\xFF\xFF\xFF\xFF\xFF\x7F"},
	{1 << 49, "\x81\x80\x80\x80\x80\x80\x80\x00"}, {1<<56 - 1, "\xFF\xFF\xFF\xFF\xFF\xFF\xFF\x7F"},
	{1 << 56, "\x81\x80\x80\x80\x80\x80\x80\x80\x00"}, {math.MaxInt, "\xFF\xFF\xFF\xFF\xFF\xFF\xFF\xFF\x7F"},
}

// P3.2
func TestPackSevens(t *testing.T) {
	all, allBytes := []int{}, ""
	for _, c := range sevenBits {
		packed(t, "w", numbers(c.n, 7), c.bytes, 1)
		all, allBytes = append(all, c.n), allBytes+c.bytes
	}
	packed(t, "w*", numbers(all...), allBytes, len(all))
	packed(t, "w"+strconv.Itoa(len(all)), numbers(all...), allBytes, len(all))
	packed(t, "w*", nil, "", 0)
	notPacked(t, "w", numbers(-1), api.ErrRange)
	notPacked(t, "w", numbers(math.MinInt), api.ErrRange)
	notPacked(t, "w2", numbers(1, -128), api.ErrRange)
}

// characters has codes with their bytes of utf-8: the edges of each length and the replacement character.
var characters = []struct {
	code  int
	bytes string
}{
	{0, "\x00"}, {'a', "a"}, {0x7F, "\x7F"},
	{0x80, "\xC2\x80"}, {0xE9, "\xC3\xA9"}, {0x7FF, "\xDF\xBF"},
	{0x800, "\xE0\xA0\x80"}, {0xD7FF, "\xED\x9F\xBF"}, {0xE000, "\xEE\x80\x80"}, {0xFFFD, "\xEF\xBF\xBD"}, {0xFFFF, "\xEF\xBF\xBF"},
	{0x10000, "\xF0\x90\x80\x80"}, {0x1F48E, "\xF0\x9F\x92\x8E"}, {0x10FFFF, "\xF4\x8F\xBF\xBF"},
}

// P3.2
func TestPackCharacters(t *testing.T) {
	all, allBytes := []int{}, ""
	for _, c := range characters {
		packed(t, "U", numbers(c.code, 7), c.bytes, 1)
		all, allBytes = append(all, c.code), allBytes+c.bytes
	}
	packed(t, "U*", numbers(all...), allBytes, len(all))
	packed(t, "U"+strconv.Itoa(len(all)), numbers(all...), allBytes, len(all))
	packed(t, "U*", nil, "", 0)
	for _, code := range []int{-1, 0xD800, 0xDBFF, 0xDC00, 0xDFFF, 0x110000, 1<<32 + 'a', -1<<32 + 'a', math.MaxInt, math.MinInt} {
		notPacked(t, "U", numbers(code), api.ErrRange)
		notPacked(t, "U*", numbers('a', code), api.ErrRange)
	}
}

// P3.2
func TestPackTexts(t *testing.T) {
	for _, c := range []struct{ form, text, want string }{
		{"a", "", "\x00"}, {"a", "x", "x"}, {"a", "xy", "x"}, {"a1", "xy", "x"}, {"a2", "xy", "xy"}, {"a3", "xy", "xy\x00"}, {"a5", "xy", "xy\x00\x00\x00"}, {"a5", "", "\x00\x00\x00\x00\x00"},
		{"A", "", " "}, {"A", "x", "x"}, {"A", "xy", "x"}, {"A1", "xy", "x"}, {"A2", "xy", "xy"}, {"A3", "xy", "xy "}, {"A5", "xy", "xy   "}, {"A5", "", "     "},
		{"Z", "", "\x00"}, {"Z", "x", "x"}, {"Z", "xy", "\x00"}, {"Z1", "xy", "\x00"}, {"Z2", "xy", "xy"}, {"Z3", "xy", "xy\x00"}, {"Z5", "xy", "xy\x00\x00\x00"}, {"Z5", "", "\x00\x00\x00\x00\x00"},
		{"Z2", "xyz", "x\x00"}, {"Z3", "xyzz", "xy\x00"}, {"A3", "xyzz", "xyz"}, {"a3", "xyzz", "xyz"},
		{"a*", "", ""}, {"a*", "xy", "xy"}, {"a*", "x\x00 ", "x\x00 "},
		{"A*", "", ""}, {"A*", "xy", "xy"}, {"A*", "x\x00 ", "x\x00 "},
		{"Z*", "", "\x00"}, {"Z*", "xy", "xy\x00"}, {"Z*", "x\x00y\x00", "x\x00y\x00\x00"}, {"Z*", "x\x00 ", "x\x00 \x00"},
		{"a2", "\xFF\xE9\x80", "\xFF\xE9"}, {"A4", "\u20AC", "\u20AC "}, {"a2", "\u20AC", "\xE2\x82"}, {"Z4", "a\x00b", "a\x00b\x00"},
	} {
		packed(t, c.form, words(c.text, "more"), c.want, 1)
	}
	long := strings.Repeat("x", 1500)
	packed(t, "a1000", words(long), long[:1000], 1)
	packed(t, "A1000", words("y"), "y"+strings.Repeat(" ", 999), 1)
	packed(t, "Z1000", words(long), long[:999]+"\x00", 1)
}

// P3.2
func TestPackHex(t *testing.T) {
	for _, c := range []struct{ form, text, want string }{
		{"H", "", "\x00"}, {"H", "a", "\xA0"}, {"H", "ab", "\xA0"}, {"H", "a!", "\xA0"}, {"H1", "ab", "\xA0"},
		{"H2", "", "\x00"}, {"H2", "a", "\xA0"}, {"H2", "ab", "\xAB"}, {"H2", "abc", "\xAB"}, {"H2", "abX", "\xAB"},
		{"H3", "", "\x00\x00"}, {"H3", "a", "\xA0\x00"}, {"H3", "ab", "\xAB\x00"}, {"H3", "abc", "\xAB\xC0"}, {"H3", "abcd", "\xAB\xC0"}, {"H3", "abc\xFF", "\xAB\xC0"},
		{"H4", "abc", "\xAB\xC0"}, {"H5", "ab", "\xAB\x00\x00"}, {"H6", "abc", "\xAB\xC0\x00"},
		{"H*", "", ""}, {"H*", "a", "\xA0"}, {"H*", "ab", "\xAB"}, {"H*", "abc", "\xAB\xC0"}, {"H*", "0123456789abcdef", "\x01\x23\x45\x67\x89\xAB\xCD\xEF"},
	} {
		packed(t, c.form, words(c.text, "more"), c.want, 1)
	}
	packed(t, "H1000", words("f"), "\xF0"+strings.Repeat("\x00", 499), 1)
	packed(t, "H999", words(strings.Repeat("f", 1000)), strings.Repeat("\xFF", 499)+"\xF0", 1)
	for char := range 256 {
		digit := string([]byte{byte(char)})
		if strings.Contains("0123456789abcdef", digit) {
			value, _ := strconv.ParseUint(digit, 16, 8)
			packed(t, "H", words(digit), string([]byte{byte(16 * value)}), 1)
			packed(t, "H2", words("0"+digit), string([]byte{byte(value)}), 1)
			continue
		}
		for _, form := range []string{"H*", "H3", "H2"} {
			notPacked(t, form, words("0"+digit), api.ErrArg)
			notPacked(t, form, words(digit+"0"), api.ErrArg)
		}
	}
}

// P3.2
func TestPackZerosAndPlaces(t *testing.T) {
	for _, c := range []struct{ form, want string }{
		{"x", "\x00"}, {"x1", "\x00"}, {"x3", "\x00\x00\x00"}, {"xx2", "\x00\x00\x00"}, {"x1000", strings.Repeat("\x00", 1000)},
		{"@", ""}, {"@0", ""}, {"@1", "\x00"}, {"@3", "\x00\x00\x00"}, {"@3@1", "\x00"}, {"@3@5", "\x00\x00\x00\x00\x00"}, {"@3@", ""}, {"@1000", strings.Repeat("\x00", 1000)},
		{"x3@3", "\x00\x00\x00"}, {"x3@2x", "\x00\x00\x00"}, {"", ""}, {"  ", ""},
	} {
		packed(t, c.form, nil, c.want, 0)
		packed(t, c.form, words("not looked at"), c.want, 0)
	}
	packed(t, "CxC", numbers(1, 2), "\x01\x00\x02", 2)
	packed(t, "C@3C", numbers(1, 2), "\x01\x00\x00\x02", 2)
	packed(t, "C3@1C", numbers(1, 2, 3, 4), "\x01\x04", 4)
	packed(t, "C3@1x2", numbers(1, 2, 3), "\x01\x00\x00", 3) // what was dropped does not come back
	packed(t, "C3@1@3", numbers(1, 2, 3), "\x01\x00\x00", 3)
	packed(t, "C3@C", numbers(1, 2, 3, 4), "\x04", 4)
	packed(t, "C3@0C", numbers(1, 2, 3, 4), "\x04", 4)
	packed(t, "a*@2a*", words("abc", "d"), "abd", 2)
	packed(t, "C@2", numbers(1, 2), "\x01\x00", 1)
	packed(t, "C3@3", numbers(1, 2, 3), "\x01\x02\x03", 3)
}

// P3.2: items that are not used are let be, whatever they are.
func TestMoreItems(t *testing.T) {
	packed(t, "", mixed(numbers(1), words("a")), "", 0)
	packed(t, "C", mixed(numbers(1, -1, 1000), words("a")), "\x01", 1)
	packed(t, "C2a", mixed(numbers(1, 2), words("a", "b")), "\x01\x02a", 3)
	packed(t, "a", mixed(words("a"), numbers(-1)), "a", 1)
	packed(t, "H", mixed(words("a", "x")), "\xA0", 1)
	packed(t, "C*C*U*w*q>*", numbers(1, 2, 3), "\x01\x02\x03", 3)
	packed(t, "CS*", numbers(1, 2, 3), "\x01\x02\x00\x03\x00", 3)
	packed(t, "aC", []Item{{IsText: true, Int: 1000, Text: "a"}, {Int: 1, Text: "not looked at"}}, "a\x01", 2)
	packed(t, "C1000", numbers(slices.Repeat([]int{7}, 1001)...), strings.Repeat("\x07", 1000), 1000)
	packed(t, "C s> w U A3 H*", mixed(numbers(255, -2, 128, 233), words("x", "abc")), "\xFF\xFF\xFE\x81\x00\xC3\xA9x  \xAB\xC0", 6)
}

// P3.1: the first directive and item at which something is wrong.
func TestOrderOfPackErrors(t *testing.T) {
	for _, letter := range numberLetters {
		form := string(letter)
		notPacked(t, form, nil, api.ErrEnd)
		notPacked(t, form+"3", numbers(1, 2), api.ErrEnd)
		notPacked(t, form+"1000", numbers(slices.Repeat([]int{7}, 999)...), api.ErrEnd)
		notPacked(t, form, words("1"), api.ErrArg)
		notPacked(t, form, words(""), api.ErrArg)
		notPacked(t, form+"*", mixed(numbers(1, 2), words("3")), api.ErrArg)
		notPacked(t, form+"3", mixed(numbers(1), words("2")), api.ErrArg) // its item 2, not its missing item 3
	}
	for _, letter := range textLetters {
		for _, count := range []string{"", "1", "5", "*"} {
			form := string(letter) + count
			notPacked(t, form, nil, api.ErrEnd)
			notPacked(t, form, numbers(0), api.ErrArg)
			notPacked(t, form+form, words("a"), api.ErrEnd)
			notPacked(t, form+form, mixed(words("a"), numbers('a')), api.ErrArg)
		}
	}
	notPacked(t, "CC", mixed(numbers(256), words("a")), api.ErrRange)
	notPacked(t, "C3", numbers(256), api.ErrRange)
	notPacked(t, "CCC", mixed(numbers(1), words("a")), api.ErrArg)
	notPacked(t, "CHC", mixed(numbers(1), words("x"), numbers(256)), api.ErrArg)
	notPacked(t, "CHC", mixed(numbers(256), words("x")), api.ErrRange)
	notPacked(t, "Ha", words("x"), api.ErrArg)
	notPacked(t, "aU", mixed(words("a"), numbers(-1)), api.ErrRange)
	notPacked(t, "aUw", mixed(words("a"), numbers(1)), api.ErrEnd)
	notPacked(t, "C", []Item{{IsText: true, Int: 256}}, api.ErrArg)
}

// P3.1: results of 100000 bytes, and of more.
func TestLongResults(t *testing.T) {
	most := strings.Repeat("x", 100000)
	packed(t, "a*", words(most), most, 1)
	packed(t, "A*", words(most), most, 1)
	packed(t, "Z*", words(most[1:]), most[1:]+"\x00", 1)
	packed(t, "H*", words(strings.Repeat("f", 200000)), strings.Repeat("\xFF", 100000), 1)
	packed(t, "H*", words(strings.Repeat("f", 199999)), strings.Repeat("\xFF", 99999)+"\xF0", 1)
	packed(t, "C*", numbers(slices.Repeat([]int{7}, 100000)...), strings.Repeat("\x07", 100000), 100000)
	packed(t, "Q*", numbers(slices.Repeat([]int{0}, 12500)...), strings.Repeat("\x00", 100000), 12500)
	packed(t, "a*x", words(most[1:]), most[1:]+"\x00", 1)
	packed(t, "a*@5", words(most), "xxxxx", 1)
	packed(t, "a*@0a*", words(most, most), most, 2)
	packed(t, "a1", words(most+most), "x", 1)
	packed(t, "H2", words("ff"+most+most+most), "\xFF", 1)

	notPacked(t, "a*", words(most+"x"), api.ErrRange)
	notPacked(t, "A*", words(most+"x"), api.ErrRange)
	notPacked(t, "Z*", words(most), api.ErrRange)
	notPacked(t, "H*", words(strings.Repeat("f", 200001)), api.ErrRange)
	notPacked(t, "H*", words(strings.Repeat("f", 200001)+"x"), api.ErrArg)
	notPacked(t, "C*", numbers(slices.Repeat([]int{7}, 100001)...), api.ErrRange)
	notPacked(t, "Q*", numbers(slices.Repeat([]int{0}, 12501)...), api.ErrRange)
	notPacked(t, "w*", numbers(slices.Repeat([]int{128}, 50001)...), api.ErrRange)
	notPacked(t, "U*", numbers(slices.Repeat([]int{0xE9}, 50001)...), api.ErrRange)
	notPacked(t, "a*x", words(most), api.ErrRange)
	notPacked(t, "a*C", mixed(words(most), numbers(1)), api.ErrRange)
	notPacked(t, "a*n", mixed(words(most[1:]), numbers(1)), api.ErrRange)
	notPacked(t, "a*C", mixed(words(most), words("y")), api.ErrArg)
	notPacked(t, "a*C", words(most), api.ErrEnd)
	notPacked(t, "a*C", mixed(words(most+"x"), words("y")), api.ErrRange)
	notPacked(t, "a*@0", words(most+"x"), api.ErrRange) // also if they would be dropped
	notPacked(t, "C*a*", mixed(numbers(slices.Repeat([]int{7}, 100001)...), words("y")), api.ErrRange)
}
