package whole

import (
	"cabochon/api"
	"math"
	"strings"
	"testing"
)

// P2.3
func TestBase(t *testing.T) {
	run(t, []check{
		{"0 in 2", of(Base("0", 2)), number("0")},
		{"0 in 36", of(Base("0", 36)), number("0")},
		{"1 in 2", of(Base("1", 2)), number("1")},
		{"-5 in 2", of(Base("-5", 2)), number("-101")},
		{"255 in 16", of(Base("255", 16)), number("ff")},
		{"-255 in 16", of(Base("-255", 16)), number("-ff")},
		{"35 in 36", of(Base("35", 36)), number("z")},
		{"36 in 36", of(Base("36", 36)), number("10")},
		{"each digit in 36", of(Base("106300512100105327644605138221229898724869759421181854980", 36)), number("zyxwvutsrqponmlkjihgfedcba9876543210")},
		{"2^64 in 16", of(Base("18446744073709551616", 16)), number("10000000000000000")},
		{"greatest in 10", of(Base("-"+nines, 10)), number("-" + nines)},
		{"greatest in 2", of(Base(nines, 2)), number(bigOf(nines).Text(2))}, // of more than 400 digits
	})
	for _, base := range []int{1, 0, -1, -2, 37, 62, 256, math.MaxInt, math.MinInt, 1<<32 + 10} {
		run(t, []check{
			{"Base to " + Of(base), of(Base("1", base)), noText(api.ErrArg)},
			{"Parse to " + Of(base), of(Parse("1", base)), noText(api.ErrArg)},
		})
	}
}

// P2.3
func TestEachDigit(t *testing.T) {
	const small, capital = "0123456789abcdefghijklmnopqrstuvwxyz", "0123456789ABCDEFGHIJKLMNOPQRSTUVWXYZ"
	for base := 2; base <= 36; base++ {
		for char := range 256 {
			s := string([]byte{byte(char)})
			digit := max(strings.Index(small, s), strings.Index(capital, s))
			want := number(Of(digit))
			if digit < 0 || digit >= base {
				want = noText(api.ErrArg)
			}
			run(t, []check{{"Parse of byte " + Of(char) + " to " + Of(base), of(Parse(s, base)), want}})
			if want.err == api.OK {
				run(t, []check{{"Base of " + Of(digit) + " to " + Of(base), of(Base(Of(digit), base)), number(small[digit : digit+1])}})
			}
		}
	}
}

// P2.3
func TestParse(t *testing.T) {
	run(t, []check{
		{"ff", of(Parse("ff", 16)), number("255")},
		{"FF", of(Parse("FF", 16)), number("255")},
		{"fF", of(Parse("fF", 16)), number("255")},
		{"+ff", of(Parse("+ff", 16)), number("255")},
		{"-ff", of(Parse("-ff", 16)), number("-255")},
		{"0", of(Parse("0", 2)), number("0")},
		{"-0", of(Parse("-0", 2)), number("0")},
		{"+0", of(Parse("+0", 2)), number("0")},
		{"-000", of(Parse("-000", 10)), number("0")},
		{"007", of(Parse("007", 8)), number("7")},
		{"-007", of(Parse("-007", 8)), number("-7")},
		{"1_000", of(Parse("1_000", 10)), number("1000")},
		{"1_0_0_0", of(Parse("1_0_0_0", 10)), number("1000")},
		{"-0_1", of(Parse("-0_1", 10)), number("-1")},
		{"z_Z", of(Parse("z_Z", 36)), number("1295")},
	})
}

// P2.3
func TestParseOfMalformed(t *testing.T) {
	list := []string{
		"", "+", "-", "_", "__", "+_", "-_", "_1", "1_", "+_1", "-_1", "1__0", "1_0_", "1___0", "_1_0",
		"++1", "--1", "+-1", "-+1", "1+", "1-", "1+1", " 1", "1 ", "+ 1", "1 0", "1.0", "1/2", "1,0",
		"\x00", "1\x00", "\x001", "1\xFF", "1\x80", "\u0661", "\uFF11", "0x1", "12a", "a", "A", ":", "@", "[", "`", "{", "/",
	}
	for _, s := range list {
		run(t, []check{{"Parse of " + s, of(Parse(s, 10)), noText(api.ErrArg)}})
	}
	for _, s := range []string{"2", "12", "-12", "1_2", "1a"} {
		run(t, []check{{"Parse to 2 of " + s, of(Parse(s, 2)), noText(api.ErrArg)}})
	}
}

// P2.3
func TestParseOfLongTexts(t *testing.T) {
	zeros := strings.Repeat("0", 1999)
	apart := strings.Repeat("0_", 999) + "0" // of 1999 bytes
	run(t, []check{
		{"2000 bytes", of(Parse(zeros+"7", 10)), number("7")},
		{"2001 bytes", of(Parse(zeros+"07", 10)), noText(api.ErrArg)},
		{"2000 bytes with a sign", of(Parse("-"+zeros[1:]+"7", 10)), number("-7")},
		{"2001 bytes with a sign", of(Parse("+"+zeros+"7", 10)), noText(api.ErrArg)},
		{"2000 bytes, digits apart", of(Parse(apart+"7", 10)), number("7")},
		{"2001 bytes, digits apart", of(Parse(apart+"_7", 10)), noText(api.ErrArg)},
		{"2000 digits of much", of(Parse(strings.Repeat("z", 2000), 36)), noText(api.ErrLimit)},
		{"2001 digits of much", of(Parse(strings.Repeat("z", 2001), 36)), noText(api.ErrArg)},
		{"2000 digits of little", of(Parse(strings.Repeat("1", 2000), 2)), noText(api.ErrLimit)},
		{"greatest to 2", of(Parse(bigOf(nines).Text(2), 2)), number(nines)},
		{"beyond the greatest to 2", of(Parse(bigOf(ten).Text(2), 2)), noText(api.ErrLimit)},
		{"least to 36", of(Parse("-"+strings.ToUpper(bigOf(nines).Text(36)), 36)), number("-" + nines)},
		{"beyond the least to 36", of(Parse("-"+bigOf(ten).Text(36), 36)), noText(api.ErrLimit)},
		{"very long", of(Parse(strings.Repeat("1", 1000000), 10)), noText(api.ErrArg)},
	})
}
