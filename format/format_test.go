package format

import (
	"cabochon/api"
	"math"
	"slices"
	"strconv"
	"strings"
	"testing"
)

func numbers(list ...int) []Arg {
	var args []Arg
	for _, n := range list {
		args = append(args, Arg{Int: n})
	}
	return args
}

// words returns texts as arguments. Their Int is not to be looked at.
func words(list ...string) []Arg {
	var args []Arg
	for _, s := range list {
		args = append(args, Arg{IsText: true, Int: 7, Text: s})
	}
	return args
}

func mixed(lists ...[]Arg) []Arg {
	return slices.Concat(lists...)
}

// formatted calls Format and Left with a form that is filled, leaving so many of the arguments.
func formatted(t *testing.T, form string, args []Arg, want string, left int) {
	t.Helper()
	kept := slices.Clone(args)
	if s, err := Format(form, args); s != want || err != api.OK {
		t.Errorf("Format of %.80q, %.200v: %.200q (error %d), not %.200q", form, args, s, err, want)
	}
	if n, err := Left(form, args); n != left || err != api.OK {
		t.Errorf("Left of %.80q, %.200v: %d (error %d), not %d", form, args, n, err, left)
	}
	if !slices.Equal(args, kept) {
		t.Errorf("%.80q changed its arguments", form)
	}
}

// notFormatted calls Format and Left with what is an error.
func notFormatted(t *testing.T, form string, args []Arg, want api.Errno) {
	t.Helper()
	if s, err := Format(form, args); s != "" || err != want {
		t.Errorf("Format of %.80q, %.200v: %.80q, error %d, not %d", form, args, s, err, want)
	}
	if n, err := Left(form, args); n != 0 || err != want {
		t.Errorf("Left of %.80q, %.200v: %d, error %d, not %d", form, args, n, err, want)
	}
}

// P4.2: the letters of numbers.
func TestNumbers(t *testing.T) {
	for _, c := range []struct {
		form string
		n    int
		want string
	}{
		{"%d", 0, "0"}, {"%d", 7, "7"}, {"%d", -7, "-7"}, {"%d", 42, "42"}, {"%d", 1000000, "1000000"},
		{"%x", 0, "0"}, {"%x", 255, "ff"}, {"%x", -255, "-ff"}, {"%x", 0xabcdef, "abcdef"}, {"%x", 16, "10"},
		{"%X", 0, "0"}, {"%X", 255, "FF"}, {"%X", -255, "-FF"}, {"%X", 0xabcdef, "ABCDEF"},
		{"%o", 0, "0"}, {"%o", 8, "10"}, {"%o", -8, "-10"}, {"%o", 511, "777"},
		{"%b", 0, "0"}, {"%b", 5, "101"}, {"%b", -5, "-101"}, {"%b", 256, "100000000"},
		{"%d", math.MaxInt, "9223372036854775807"}, {"%d", math.MinInt, "-9223372036854775808"},
		{"%x", math.MaxInt, "7fffffffffffffff"}, {"%x", math.MinInt, "-8000000000000000"},
		{"%X", math.MaxInt, "7FFFFFFFFFFFFFFF"}, {"%#X", math.MinInt, "-0X8000000000000000"},
		{"%o", math.MaxInt, "777777777777777777777"}, {"%o", math.MinInt, "-1000000000000000000000"},
		{"%b", math.MaxInt, strings.Repeat("1", 63)}, {"%b", math.MinInt, "-1" + strings.Repeat("0", 63)},
		{"%s", math.MaxInt, "9223372036854775807"}, {"%s", math.MinInt, "-9223372036854775808"}, {"%p", math.MinInt, `"-9223372036854775808"`},
		{"%22d", math.MinInt, "  -9223372036854775808"}, {"%022d", math.MinInt, "-009223372036854775808"}, {"%.20d", math.MinInt, "-09223372036854775808"},
	} {
		formatted(t, c.form, numbers(c.n), c.want, 0)
	}
}

// P4.2: each flag, alone.
func TestFlagsOfNumbers(t *testing.T) {
	for _, c := range []struct {
		form              string
		zero, more, below string // of 0, 10 and -10
	}{
		{"%d", "0", "10", "-10"}, {"%x", "0", "a", "-a"}, {"%X", "0", "A", "-A"}, {"%o", "0", "12", "-12"}, {"%b", "0", "1010", "-1010"},
		{"%-d", "0", "10", "-10"}, {"%-x", "0", "a", "-a"}, {"%-X", "0", "A", "-A"}, {"%-o", "0", "12", "-12"}, {"%-b", "0", "1010", "-1010"},
		{"%0d", "0", "10", "-10"}, {"%0x", "0", "a", "-a"}, {"%0X", "0", "A", "-A"}, {"%0o", "0", "12", "-12"}, {"%0b", "0", "1010", "-1010"},
		{"%+d", "+0", "+10", "-10"}, {"%+x", "+0", "+a", "-a"}, {"%+X", "+0", "+A", "-A"}, {"%+o", "+0", "+12", "-12"}, {"%+b", "+0", "+1010", "-1010"},
		{"% d", " 0", " 10", "-10"}, {"% x", " 0", " a", "-a"}, {"% X", " 0", " A", "-A"}, {"% o", " 0", " 12", "-12"}, {"% b", " 0", " 1010", "-1010"},
		{"%#d", "0", "10", "-10"}, {"%#x", "0", "0xa", "-0xa"}, {"%#X", "0", "0XA", "-0XA"}, {"%#o", "0", "012", "-012"}, {"%#b", "0", "0b1010", "-0b1010"},
		{"%7d", "      0", "     10", "    -10"}, {"%7x", "      0", "      a", "     -a"}, {"%7o", "      0", "     12", "    -12"}, {"%7b", "      0", "   1010", "  -1010"},
		{"%-7d", "0      ", "10     ", "-10    "}, {"%-7X", "0      ", "A      ", "-A     "}, {"%-7o", "0      ", "12     ", "-12    "}, {"%-7b", "0      ", "1010   ", "-1010  "},
		{"%07d", "0000000", "0000010", "-000010"}, {"%07x", "0000000", "000000a", "-00000a"}, {"%07o", "0000000", "0000012", "-000012"}, {"%07b", "0000000", "0001010", "-001010"},
		{"%+7d", "     +0", "    +10", "    -10"}, {"% 7d", "      0", "     10", "    -10"},
		{"%#7x", "      0", "    0xa", "   -0xa"}, {"%#7X", "      0", "    0XA", "   -0XA"}, {"%#7o", "      0", "    012", "   -012"}, {"%#7b", "      0", " 0b1010", "-0b1010"}, {"%#7d", "      0", "     10", "    -10"},
		{"%.4d", "0000", "0010", "-0010"}, {"%.4x", "0000", "000a", "-000a"}, {"%.4X", "0000", "000A", "-000A"}, {"%.4o", "0000", "0012", "-0012"}, {"%.4b", "0000", "1010", "-1010"}, {"%.5b", "00000", "01010", "-01010"},
		{"%.2d", "00", "10", "-10"}, {"%.1d", "0", "10", "-10"},
	} {
		formatted(t, c.form, numbers(0), c.zero, 0)
		formatted(t, c.form, numbers(10), c.more, 0)
		formatted(t, c.form, numbers(-10), c.below, 0)
		formatted(t, c.form, words("0"), c.zero, 0)
		formatted(t, c.form, words("10"), c.more, 0)
		formatted(t, c.form, words("-10"), c.below, 0)
	}
}

// P4.2: several flags, in any order and repeated.
func TestManyFlags(t *testing.T) {
	for _, c := range []struct {
		flags, rest       string
		zero, more, below string // of 0, 10 and -10
	}{
		{"-0", "6d", "0     ", "10    ", "-10   "}, {"-+", "6d", "+0    ", "+10   ", "-10   "}, {"- ", "6d", " 0    ", " 10   ", "-10   "}, {"-#", "6x", "0     ", "0xa   ", "-0xa  "},
		{"0+", "6d", "+00000", "+00010", "-00010"}, {"0 ", "6d", " 00000", " 00010", "-00010"}, {"+ ", "6d", "    +0", "   +10", "   -10"}, {"0+ ", "6d", "+00000", "+00010", "-00010"},
		{"0#", "6x", "000000", "0x000a", "-0x00a"}, {"0#", "6X", "000000", "0X000A", "-0X00A"}, {"0#", "6o", "000000", "000012", "-00012"}, {"0#", "6b", "000000", "0b1010", "-0b1010"}, {"0#", "8b", "00000000", "0b001010", "-0b01010"}, {"0#", "6d", "000000", "000010", "-00010"},
		{"+#", "6x", "    +0", "  +0xa", "  -0xa"}, {" #", "6o", "     0", "   012", "  -012"}, {"0+#", "8x", "+0000000", "+0x0000a", "-0x0000a"}, {"-+#", "6b", "+0    ", "+0b1010", "-0b1010"}, {"-0+ #", "7X", "+0     ", "+0XA   ", "-0XA   "},
		{"0", "6.3d", "   000", "   010", "  -010"}, {"0+", "6.3d", "  +000", "  +010", "  -010"}, {"0#", "8.3x", "     000", "   0x00a", "  -0x00a"}, {"-0#", "8.3x", "000     ", "0x00a   ", "-0x00a  "}, {"0", "6.d", "      ", "    10", "   -10"}, {"0+", "6.0d", "     +", "   +10", "   -10"},
		{"#", ".1o", "0", "012", "-012"}, {"#", ".2o", "00", "012", "-012"}, {"#", ".3o", "000", "012", "-012"}, {"#", ".4o", "0000", "0012", "-0012"},
		{"#", ".2x", "00", "0x0a", "-0x0a"}, {"#", ".5b", "00000", "0b01010", "-0b01010"},
	} {
		for _, flags := range orders(c.flags) {
			for _, front := range []string{flags, flags + flags, flags + c.flags + flags} {
				formatted(t, "%"+front+c.rest, numbers(0), c.zero, 0)
				formatted(t, "%"+front+c.rest, numbers(10), c.more, 0)
				formatted(t, "%"+front+c.rest, numbers(-10), c.below, 0)
				formatted(t, "%<n>"+front+c.rest, []Arg{{Name: "n", Int: -10}}, c.below, 0)
			}
		}
	}
}

// orders returns a text's bytes in each order.
func orders(text string) []string {
	if text == "" {
		return []string{""}
	}
	var list []string
	for i := range len(text) {
		for _, rest := range orders(text[:i] + text[i+1:]) {
			list = append(list, text[i:i+1]+rest)
		}
	}
	return list
}

// P4.2: precision 0, with and without digits.
func TestPrecisionZero(t *testing.T) {
	for _, letter := range numberLetters {
		for _, precision := range []string{".", ".0", ".00", ".000"} {
			end := precision + string(letter)
			formatted(t, "%"+end, numbers(0), "", 0)
			formatted(t, "%"+end, words("0"), "", 0)
			formatted(t, "%"+end, words("-0"), "", 0)
			formatted(t, "%#"+end, numbers(0), "", 0)
			formatted(t, "%+"+end, numbers(0), "+", 0)
			formatted(t, "% "+end, numbers(0), " ", 0)
			formatted(t, "%+#"+end, numbers(0), "+", 0)
			formatted(t, "%3"+end, numbers(0), "   ", 0)
			formatted(t, "%03"+end, numbers(0), "   ", 0)
			formatted(t, "%-03"+end, numbers(0), "   ", 0)
			formatted(t, "%+3"+end, numbers(0), "  +", 0)
			formatted(t, "%-+3"+end, numbers(0), "+  ", 0)
			formatted(t, "%"+end, numbers(1), "1", 0)
			formatted(t, "%"+end, numbers(-1), "-1", 0)
			formatted(t, "%03"+end, numbers(1), "  1", 0)
		}
		formatted(t, "%.*"+string(letter), numbers(0, 0), "", 0)
		formatted(t, "%.1"+string(letter), numbers(0), "0", 0)
		formatted(t, "%"+string(letter), numbers(0), "0", 0)
	}
}

// P4.2: texts, bytes and quotes.
func TestTexts(t *testing.T) {
	for _, c := range []struct{ form, text, want string }{
		{"%s", "", ""}, {"%s", "abc", "abc"}, {"%s", "\x00\xFF\n\"\\%", "\x00\xFF\n\"\\%"}, {"%s", "%d", "%d"}, {"%s", "-0", "-0"}, {"%s", "007", "007"},
		{"%5s", "", "     "}, {"%5s", "abc", "  abc"}, {"%-5s", "abc", "abc  "}, {"%05s", "abc", "  abc"}, {"%-05s", "abc", "abc  "}, {"%3s", "abc", "abc"}, {"%2s", "abc", "abc"}, {"%1s", "abc", "abc"},
		{"%+s", "abc", "abc"}, {"% s", "abc", "abc"}, {"%#s", "abc", "abc"}, {"%0+ #5s", "12", "   12"}, {"%+s", "12", "12"}, {"%-0+ #5s", "abc", "abc  "},
		{"%.s", "abc", ""}, {"%.0s", "abc", ""}, {"%.1s", "abc", "a"}, {"%.2s", "abc", "ab"}, {"%.3s", "abc", "abc"}, {"%.4s", "abc", "abc"}, {"%.1000s", "abc", "abc"}, {"%.02s", "abc", "ab"},
		{"%5.2s", "abc", "   ab"}, {"%-5.2s", "abc", "ab   "}, {"%05.2s", "abc", "   ab"}, {"%3.0s", "abc", "   "}, {"%.2s", "éa", "é"}, {"%.1s", "éa", "\xC3"}, {"%3s", "é", " é"},
		{"%p", "", `""`}, {"%p", "abc", `"abc"`}, {"%p", `a"b`, `"a\"b"`}, {"%p", `a\b`, `"a\\b"`}, {"%p", "a\nb", `"a\nb"`}, {"%p", `\n`, `"\\n"`}, {"%p", "\\\n\"", `"\\\n\""`}, {"%p", `\"`, `"\\\""`}, {"%p", "\t\r\x00\xFF'#{}é", "\"\t\r\x00\xFF'#{}é\""}, {"%p", "12", `"12"`},
		{"%6p", "ab", `  "ab"`}, {"%-6p", "ab", `"ab"  `}, {"%06p", "ab", `  "ab"`}, {"%+ #p", "ab", `"ab"`}, {"%4p", "ab", `"ab"`}, {"%3p", "ab", `"ab"`},
		{"%.0p", "ab", ""}, {"%.p", "ab", ""}, {"%.1p", "ab", `"`}, {"%.3p", "ab", `"ab`}, {"%.4p", "ab", `"ab"`}, {"%.5p", "ab", `"ab"`}, {"%.2p", "\n", `"\`}, {"%5.3p", "ab", `  "ab`}, {"%-5.3p", "ab", `"ab  `}, {"%05.3p", "ab", `  "ab`},
		{"%c", "a", "a"}, {"%c", "abc", "a"}, {"%c", "65", "6"}, {"%c", "é", "\xC3"}, {"%c", "\x00a", "\x00"}, {"%c", "\xFFa", "\xFF"}, {"%c", "-1", "-"}, {"%c", "256", "2"},
		{"%3c", "abc", "  a"}, {"%-3c", "abc", "a  "}, {"%03c", "abc", "  a"}, {"%+ #c", "abc", "a"}, {"%1c", "abc", "a"}, {"%.0c", "abc", "a"}, {"%.c", "abc", "a"}, {"%.2c", "abc", "a"}, {"%3.2c", "abc", "  a"}, {"%-3.0c", "abc", "a  "},
	} {
		formatted(t, c.form, words(c.text), c.want, 0)
		named := strings.Replace(c.form, "%", "%<n>", 1)
		formatted(t, named, []Arg{{Name: "n", IsText: true, Int: 7, Text: c.text}}, c.want, 0)
	}
	for _, c := range []struct {
		form string
		n    int
		want string
	}{
		{"%s", 0, "0"}, {"%s", 42, "42"}, {"%s", -42, "-42"}, {"%5s", -42, "  -42"}, {"%-5s", 42, "42   "}, {"%05s", 42, "   42"}, {"%+s", 42, "42"}, {"% s", 42, "42"}, {"%#s", 42, "42"}, {"%.1s", -42, "-"}, {"%.0s", 0, ""}, {"%.5s", 42, "42"}, {"%4.2s", -42, "  -4"},
		{"%p", 0, `"0"`}, {"%p", -42, `"-42"`}, {"%6p", 42, `  "42"`}, {"%-6p", 42, `"42"  `}, {"%06p", 42, `  "42"`}, {"%+p", 42, `"42"`}, {"%.2p", 42, `"4`},
		{"%3c", 65, "  A"}, {"%-3c", 65, "A  "}, {"%03c", 65, "  A"}, {"%+ #c", 65, "A"}, {"%.0c", 65, "A"}, {"%.c", 65, "A"}, {"%.3c", 65, "A"}, {"%3.3c", 65, "  A"},
	} {
		formatted(t, c.form, []Arg{{Int: c.n, Text: "not looked at"}}, c.want, 0)
	}
}

// P4.1, P4.2: c of numbers.
func TestBytes(t *testing.T) {
	for n := range 256 {
		formatted(t, "%c", numbers(n), string([]byte{byte(n)}), 0)
		formatted(t, "%-2c|", numbers(n), string([]byte{byte(n), ' ', '|'}), 0)
	}
	for _, n := range []int{-1, 256, 257, 1000, -255, -256, 1 << 32, 1<<32 + 65, -1<<32 + 65, math.MaxInt, math.MinInt} {
		notFormatted(t, "%c", numbers(n), api.ErrArg)
		notFormatted(t, "%5.2c", numbers(n), api.ErrArg)
	}
	notFormatted(t, "%c", words(""), api.ErrArg)
	notFormatted(t, "%5.0c", words(""), api.ErrArg)
	notFormatted(t, "%c", []Arg{{IsText: true, Int: 65}}, api.ErrArg)
}

// P4.1, P4.2: texts that are numbers, and texts that are none.
func TestTextsAsNumbers(t *testing.T) {
	for _, c := range []struct {
		text string
		n    int
	}{
		{"0", 0}, {"-0", 0}, {"1", 1}, {"-1", -1}, {"9", 9}, {"10", 10}, {"-10", -10}, {"100", 100}, {"255", 255},
		{"99999999999999999", 99999999999999999}, {"-99999999999999999", -99999999999999999},
		{"100000000000000000", 100000000000000000}, {"-100000000000000000", -100000000000000000},
		{"999999999999999999", 999999999999999999}, {"-999999999999999999", -999999999999999999},
	} {
		formatted(t, "%d", words(c.text), strconv.Itoa(c.n), 0)
		formatted(t, "%x", words(c.text), strconv.FormatInt(int64(c.n), 16), 0)
		formatted(t, "%X", words(c.text), strings.ToUpper(strconv.FormatInt(int64(c.n), 16)), 0)
		formatted(t, "%o", words(c.text), strconv.FormatInt(int64(c.n), 8), 0)
		formatted(t, "%b", words(c.text), strconv.FormatInt(int64(c.n), 2), 0)
		formatted(t, "%<n>d", []Arg{{Name: "n", IsText: true, Text: c.text}}, strconv.Itoa(c.n), 0)
	}
	formatted(t, "%+d", words("-0"), "+0", 0)
	formatted(t, "% 5d", words("-0"), "    0", 0)
	formatted(t, "%#x", words("-0"), "0", 0)
	for _, text := range []string{
		"", "-", "+", "--1", "-+1", "+1", "+0", "--0", "00", "01", "-00", "-01", "007", "-007", "000", " 1", "1 ", "- 1", "1\n", "\n1", "1\x00", "1.0", "1.", ".1", "1e3", "1_000", "1,000", "0x1", "0b1", "0o1", "ff", "FF", "a", "x", "1a", "1-", "1-1", "\u0661", "\uFF11", "\xFF", "\u22121",
		"1000000000000000000", "-1000000000000000000", "9223372036854775807", "-9223372036854775808", "9999999999999999999", "9223372036854775808", "18446744073709551617", "0999999999999999999", "0000000000000000001", "-0000000000000000001", strings.Repeat("9", 10000), strings.Repeat("0", 10000),
	} {
		for _, letter := range numberLetters {
			notFormatted(t, "%"+string(letter), words(text), api.ErrArg)
			notFormatted(t, "%+-09.3"+string(letter), words(text), api.ErrArg)
		}
		notFormatted(t, "%<n>d", []Arg{{Name: "n", IsText: true, Text: text, Int: 1}}, api.ErrArg)
		formatted(t, "%s", words(text), text, 0)
	}
}
