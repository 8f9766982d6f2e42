package whole

import (
	"cabochon/api"
	"math"
	"math/big"
	"strings"
	"testing"
)

// nines is the greatest number, ten its successor, which has 401 digits and is none.
var (
	nines = strings.Repeat("9", 400)
	ten   = "1" + strings.Repeat("0", 400)
)

// noNumbers are strings that are no numbers.
var noNumbers = []string{
	"", "-", "-0", "00", "01", "-01", "000", "+1", "--1", "-+1", "1-", " 1", "1 ", "- 1", "1_0", "1,000",
	"1.0", "1e3", "0x1", "ff", "a", "1/2", "1\x00", "\x00", "1\xFF", "\u0661", "\uFF11", "\u22121",
	ten, "-" + ten, "0" + nines, strings.Repeat("9", 1000000),
}

// got is what a call returned: its results, one behind the other, and its error.
type got struct {
	value any
	err   api.Errno
}

func of[V any](value V, err api.Errno) got {
	return got{value, err}
}

func ofDiv(quotient, rest string, err api.Errno) got {
	return got{[2]string{quotient, rest}, err}
}

// check is a call with what it has to return.
type check struct {
	name       string
	call, want got
}

func run(t *testing.T, list []check) {
	t.Helper()
	for _, c := range list {
		if c.call != c.want {
			t.Errorf("%.80s: %v (error %d), not %v (error %d)", c.name, c.call.value, c.call.err, c.want.value, c.want.err)
		}
	}
}

func number(s string) got      { return got{s, api.OK} }
func count(n int) got          { return got{n, api.OK} }
func noText(e api.Errno) got   { return got{"", e} }
func noInt(e api.Errno) got    { return got{0, e} }
func noTexts(e api.Errno) got  { return got{[2]string{}, e} }
func parts(q, r string) got    { return got{[2]string{q, r}, api.OK} }
func bigOf(s string) *big.Int  { n, _ := new(big.Int).SetString(s, 10); return n }
func next(s string) string     { return new(big.Int).Add(bigOf(s), big.NewInt(1)).String() }
func before(s string) string   { return new(big.Int).Sub(bigOf(s), big.NewInt(1)).String() }
func squareOf(s string) string { return new(big.Int).Mul(bigOf(s), bigOf(s)).String() }

// takers has each call that takes a number at one place, with s at that place and what is returned together with an error.
func takers(s string) []check {
	return []check{
		{"Int", of(Int(s)), noInt(api.ErrArg)},
		{"Add a", of(Add(s, "1")), noText(api.ErrArg)},
		{"Add b", of(Add("1", s)), noText(api.ErrArg)},
		{"Sub a", of(Sub(s, "1")), noText(api.ErrArg)},
		{"Sub b", of(Sub("1", s)), noText(api.ErrArg)},
		{"Mul a", of(Mul(s, "0")), noText(api.ErrArg)},
		{"Mul b", of(Mul("0", s)), noText(api.ErrArg)},
		{"Div a", ofDiv(Div(s, "1")), noTexts(api.ErrArg)},
		{"Div b", ofDiv(Div("0", s)), noTexts(api.ErrArg)},
		{"Pow", of(Pow(s, 0)), noText(api.ErrArg)},
		{"Mod a", of(Mod(s, 0, "2")), noText(api.ErrArg)},
		{"Mod m", of(Mod("2", 0, s)), noText(api.ErrArg)},
		{"Gcd a", of(Gcd(s, "1")), noText(api.ErrArg)},
		{"Gcd b", of(Gcd("1", s)), noText(api.ErrArg)},
		{"Root", of(Root(s)), noText(api.ErrArg)},
		{"Compare a", of(Compare(s, "1")), noInt(api.ErrArg)},
		{"Compare b", of(Compare("1", s)), noInt(api.ErrArg)},
		{"Base", of(Base(s, 10)), noText(api.ErrArg)},
		{"Bits", of(Bits(s)), noInt(api.ErrArg)},
		{"Ratio a", of(Ratio(s, "1")), noText(api.ErrArg)},
		{"Ratio b", of(Ratio("1", s)), noText(api.ErrArg)},
	}
}

// P2.1: a string that is no number, at each place where one is taken
func TestNoNumbers(t *testing.T) {
	for _, s := range noNumbers {
		if Valid(s) {
			t.Errorf("Valid(%.80q)", s)
		}
		run(t, takers(s))
	}
}

// P2.1
func TestNumbers(t *testing.T) {
	for _, s := range []string{"0", "1", "-1", "9", "10", "-10", "100", "1000000000", "4294967296", nines, "-" + nines} {
		if !Valid(s) {
			t.Errorf("not Valid(%q)", s)
		}
		for _, c := range takers(s) {
			// Root has an error of its own, Int a bound of its own.
			if strings.HasPrefix(c.name, "Root") || c.name == "Int" || c.call.err == api.ErrZero {
				continue
			}
			if c.call.err == api.ErrArg && c.name != "Mod m" {
				t.Errorf("%s of %.80s: %v", c.name, s, c.call)
			}
		}
	}
}

// P2.1
func TestOneErrorBeforeAnother(t *testing.T) {
	run(t, []check{
		{"Div of no number by 0", ofDiv(Div("01", "0")), noTexts(api.ErrArg)},
		{"Div by -0", ofDiv(Div("1", "-0")), noTexts(api.ErrArg)},
		{"Div of two that are none", ofDiv(Div("", "")), noTexts(api.ErrArg)},
		{"Ratio of no number by 0", of(Ratio("x", "0")), noText(api.ErrArg)},
		{"Ratio of a rational by 0", of(Ratio("1/2", "0")), noText(api.ErrArg)},
		{"Ratio by 00", of(Ratio("1", "00")), noText(api.ErrArg)},
		{"Add of too long and greatest", of(Add(ten, nines)), noText(api.ErrArg)},
		{"Mul of greatest and too long", of(Mul(nines, ten)), noText(api.ErrArg)},
		{"Pow of greatest, far too often", of(Pow(nines, 1001)), noText(api.ErrArg)},
		{"Pow of no number, less than never", of(Pow("01", -1)), noText(api.ErrArg)},
		{"Mod by 0, not ErrZero", of(Mod("1", 1, "0")), noText(api.ErrArg)},
		{"Mod of no number, too often, by 0", of(Mod("-0", 1000001, "0")), noText(api.ErrArg)},
		{"Int of too long", of(Int(ten)), noInt(api.ErrArg)},
		{"Parse of too much, with no digit", of(Parse(strings.Repeat("9", 2000)+"?", 10)), noText(api.ErrArg)},
		{"Parse of too much, with no digit there", of(Parse(strings.Repeat("9", 1999)+"?", 10)), noText(api.ErrArg)},
		{"Parse of too much to no base", of(Parse(strings.Repeat("9", 2000), 37)), noText(api.ErrArg)},
		{"RatioAdd of greatest and none", of(RatioAdd(nines, "2/2")), noText(api.ErrArg)},
		{"RatioMul of none and greatest", of(RatioMul("1/0", nines)), noText(api.ErrArg)},
		{"Decimal of none, with too many places", of(Decimal("1/1", 101)), noText(api.ErrArg)},
	})
}

// P2.1
func TestTooManyDigits(t *testing.T) {
	half := "5" + strings.Repeat("0", 399)
	less := before(nines)
	run(t, []check{
		{"Add", of(Add(nines, "1")), noText(api.ErrLimit)},
		{"Add below 0", of(Add("-1", "-"+nines)), noText(api.ErrLimit)},
		{"Add of halves", of(Add(half, half)), noText(api.ErrLimit)},
		{"Add up to the limit", of(Add(less, "1")), number(nines)},
		{"Add below 0 up to the limit", of(Add("-1", "-"+less)), number("-" + nines)},
		{"Sub", of(Sub("-"+nines, "1")), noText(api.ErrLimit)},
		{"Sub of what is below 0", of(Sub("1", "-"+nines)), noText(api.ErrLimit)},
		{"Sub up to the limit", of(Sub("-1", less)), number("-" + nines)},
		{"Mul", of(Mul(half, "2")), noText(api.ErrLimit)},
		{"Mul below 0", of(Mul("-2", half)), noText(api.ErrLimit)},
		{"Mul of greatest", of(Mul(nines, nines)), noText(api.ErrLimit)},
		{"Mul by 1", of(Mul(nines, "-1")), number("-" + nines)},
		{"Mul up to the limit", of(Mul("9", strings.Repeat("1", 400))), number(nines)},
		{"Mul by 0", of(Mul("-"+nines, "0")), number("0")},
		{"Pow", of(Pow("10", 400)), noText(api.ErrLimit)},
		{"Pow below 0", of(Pow("-10", 401)), noText(api.ErrLimit)},
		{"Pow up to the limit", of(Pow("10", 399)), number("1" + strings.Repeat("0", 399))},
		{"Pow below 0 up to the limit", of(Pow("-10", 399)), number("-1" + strings.Repeat("0", 399))},
		{"Pow of greatest", of(Pow(nines, 1)), number(nines)},
		{"Pow of greatest, twice", of(Pow(nines, 2)), noText(api.ErrLimit)},
		{"Pow of greatest, most often", of(Pow("-"+nines, 1000)), noText(api.ErrLimit)},
		{"Parse", of(Parse(ten, 10)), noText(api.ErrLimit)},
		{"Parse below 0", of(Parse("-"+ten, 10)), noText(api.ErrLimit)},
		{"Parse up to the limit", of(Parse("0"+nines, 10)), number(nines)},
	})
}

// P2.2
func TestOfAndInt(t *testing.T) {
	list := []struct {
		n int
		s string
	}{
		{0, "0"}, {1, "1"}, {-1, "-1"}, {10, "10"}, {-10, "-10"}, {1 << 32, "4294967296"}, {-1 << 32, "-4294967296"},
		{math.MaxInt, "9223372036854775807"}, {math.MaxInt - 1, "9223372036854775806"},
		{math.MinInt, "-9223372036854775808"}, {math.MinInt + 1, "-9223372036854775807"},
	}
	for _, l := range list {
		if s := Of(l.n); s != l.s {
			t.Error("Of", l.n, s)
		}
		run(t, []check{{"Int of " + l.s, of(Int(l.s)), count(l.n)}})
	}
	for _, s := range []string{"9223372036854775808", "-9223372036854775809", "18446744073709551615", "18446744073709551616", "-18446744073709551616", nines, "-" + nines} {
		run(t, []check{{"Int of " + s, of(Int(s)), noInt(api.ErrLimit)}})
	}
}

// P2.2
func TestAddSubMul(t *testing.T) {
	run(t, []check{
		{"0+0", of(Add("0", "0")), number("0")},
		{"7-7", of(Add("7", "-7")), number("0")},
		{"-7+7", of(Add("-7", "7")), number("0")},
		{"7-9", of(Add("7", "-9")), number("-2")},
		{"-7+9", of(Add("-7", "9")), number("2")},
		{"-7-9", of(Add("-7", "-9")), number("-16")},
		{"with a carry", of(Add("18446744073709551615", "1")), number("18446744073709551616")},
		{"0-0", of(Sub("0", "0")), number("0")},
		{"0-5", of(Sub("0", "5")), number("-5")},
		{"-5--5", of(Sub("-5", "-5")), number("0")},
		{"5--5", of(Sub("5", "-5")), number("10")},
		{"with a borrow", of(Sub("18446744073709551616", "1")), number("18446744073709551615")},
		{"0*-5", of(Mul("0", "-5")), number("0")},
		{"-5*0", of(Mul("-5", "0")), number("0")},
		{"-5*-5", of(Mul("-5", "-5")), number("25")},
		{"5*-5", of(Mul("5", "-5")), number("-25")},
	})
}

// P2.2
func TestDiv(t *testing.T) {
	run(t, []check{
		{"7 by 2", ofDiv(Div("7", "2")), parts("3", "1")},
		{"-7 by 2", ofDiv(Div("-7", "2")), parts("-4", "1")},
		{"7 by -2", ofDiv(Div("7", "-2")), parts("-4", "-1")},
		{"-7 by -2", ofDiv(Div("-7", "-2")), parts("3", "-1")},
		{"6 by 2", ofDiv(Div("6", "2")), parts("3", "0")},
		{"-6 by 2", ofDiv(Div("-6", "2")), parts("-3", "0")},
		{"6 by -2", ofDiv(Div("6", "-2")), parts("-3", "0")},
		{"-6 by -2", ofDiv(Div("-6", "-2")), parts("3", "0")},
		{"1 by 5", ofDiv(Div("1", "5")), parts("0", "1")},
		{"-1 by 5", ofDiv(Div("-1", "5")), parts("-1", "4")},
		{"1 by -5", ofDiv(Div("1", "-5")), parts("-1", "-4")},
		{"-1 by -5", ofDiv(Div("-1", "-5")), parts("0", "-1")},
		{"0 by 5", ofDiv(Div("0", "5")), parts("0", "0")},
		{"0 by -5", ofDiv(Div("0", "-5")), parts("0", "0")},
		{"-1 by the greatest", ofDiv(Div("-1", nines)), parts("-1", before(nines))},
		{"least by 1", ofDiv(Div("-"+nines, "1")), parts("-"+nines, "0")},
		{"least by -1", ofDiv(Div("-"+nines, "-1")), parts(nines, "0")},
		{"5 by 0", ofDiv(Div("5", "0")), noTexts(api.ErrZero)},
		{"0 by 0", ofDiv(Div("0", "0")), noTexts(api.ErrZero)},
	})
}

// P2.2
func TestPow(t *testing.T) {
	run(t, []check{
		{"0 to the 0", of(Pow("0", 0)), number("1")},
		{"0 to the 1", of(Pow("0", 1)), number("0")},
		{"0 to the 1000", of(Pow("0", 1000)), number("0")},
		{"-7 to the 0", of(Pow("-7", 0)), number("1")},
		{"-7 to the 1", of(Pow("-7", 1)), number("-7")},
		{"-7 to the 2", of(Pow("-7", 2)), number("49")},
		{"-7 to the 3", of(Pow("-7", 3)), number("-343")},
		{"1 to the 1000", of(Pow("1", 1000)), number("1")},
		{"-1 to the 999", of(Pow("-1", 999)), number("-1")},
		{"-1 to the 1000", of(Pow("-1", 1000)), number("1")},
		{"2 to the 1000", of(Pow("2", 1000)), number(new(big.Int).Lsh(big.NewInt(1), 1000).String())},
		{"greatest to the 0", of(Pow(nines, 0)), number("1")},
		{"2 to the -1", of(Pow("2", -1)), noText(api.ErrArg)},
		{"0 to the least", of(Pow("0", math.MinInt)), noText(api.ErrArg)},
		{"1 to the 1001", of(Pow("1", 1001)), noText(api.ErrArg)},
		{"0 to the greatest", of(Pow("0", math.MaxInt)), noText(api.ErrArg)},
	})
}

// P2.1, P2.2: each power of small numbers, around the limit too
func TestEachPow(t *testing.T) {
	for a := int64(-12); a <= 12; a++ {
		power := big.NewInt(1)
		for n := range 1001 {
			want := number(power.String())
			if len(new(big.Int).Abs(power).String()) > 400 {
				want = noText(api.ErrLimit)
			}
			// Those far behind the limit are all alike.
			if n < 450 || n%50 == 0 || power.BitLen() < 1400 {
				run(t, []check{{Of(int(a)) + " to the " + Of(n), of(Pow(Of(int(a)), n)), want}})
			}
			power.Mul(power, big.NewInt(a))
		}
	}
}

// P2.2
func TestMod(t *testing.T) {
	run(t, []check{
		{"power 0", of(Mod("5", 0, "7")), number("1")},
		{"power 0 of 0", of(Mod("0", 0, "7")), number("1")},
		{"power 0, m 1", of(Mod("5", 0, "1")), number("0")},
		{"power 0 of 0, m 1", of(Mod("0", 0, "1")), number("0")},
		{"power 3, m 1", of(Mod("5", 3, "1")), number("0")},
		{"power 1 of 0", of(Mod("0", 1, "7")), number("0")},
		{"below 0, power 1", of(Mod("-3", 1, "7")), number("4")},
		{"below 0, power 2", of(Mod("-3", 2, "7")), number("2")},
		{"below 0, power 3", of(Mod("-3", 3, "7")), number("1")},
		{"the rest 0", of(Mod("-14", 1, "7")), number("0")},
		{"m as it is", of(Mod("7", 1, "7")), number("0")},
		{"m less 1", of(Mod("-1", 1, nines)), number(before(nines))},
		{"m less 1, often", of(Mod(before(nines), 1000000, nines)), number("1")},
		{"most often", of(Mod("2", 1000000, "1000000007")), number("235042059")},
		{"too often", of(Mod("2", 1000001, "1000000007")), noText(api.ErrArg)},
		{"less than never", of(Mod("2", -1, "7")), noText(api.ErrArg)},
		{"least", of(Mod("2", math.MinInt, "7")), noText(api.ErrArg)},
		{"m 0", of(Mod("2", 1, "0")), noText(api.ErrArg)},
		{"m below 0", of(Mod("2", 1, "-7")), noText(api.ErrArg)},
	})
}

// P2.2
func TestGcd(t *testing.T) {
	run(t, []check{
		{"0 and 0", of(Gcd("0", "0")), number("0")},
		{"0 and -6", of(Gcd("0", "-6")), number("6")},
		{"-6 and 0", of(Gcd("-6", "0")), number("6")},
		{"12 and 18", of(Gcd("12", "18")), number("6")},
		{"-12 and -18", of(Gcd("-12", "-18")), number("6")},
		{"12 and -35", of(Gcd("12", "-35")), number("1")},
		{"1 and greatest", of(Gcd("1", nines)), number("1")},
		{"greatest and least", of(Gcd(nines, "-"+nines)), number(nines)},
	})
}

// P2.2
func TestRoot(t *testing.T) {
	run(t, []check{
		{"0", of(Root("0")), number("0")},
		{"-1", of(Root("-1")), noText(api.ErrArg)},
		{"least", of(Root("-" + nines)), noText(api.ErrArg)},
		{"greatest", of(Root(nines)), number(strings.Repeat("9", 200))},
	})
	for n := range 1000 {
		run(t, []check{{"Root of " + Of(n), of(Root(Of(n))), number(Of(int(math.Sqrt(float64(n)))))}})
	}
	for _, s := range []string{"1", "2", "65535", "65536", "4294967295", "4294967296", "18446744073709551615", "18446744073709551616", "1" + strings.Repeat("0", 199), strings.Repeat("9", 200)} {
		square := squareOf(s)
		run(t, []check{
			{"Root of the square of " + s, of(Root(square)), number(s)},
			{"Root below the square of " + s, of(Root(before(square))), number(before(s))},
			{"Root above the square of " + s, of(Root(next(square))), number(new(big.Int).Sqrt(bigOf(next(square))).String())},
		})
	}
}

// P2.2
func TestCompare(t *testing.T) {
	list := []string{"-" + nines, "-100", "-99", "-10", "-9", "-1", "0", "1", "9", "10", "99", "100", "4294967295", "4294967296", before(nines), nines}
	for i, a := range list {
		for k, b := range list {
			want := 0
			if i < k {
				want = -1
			}
			if i > k {
				want = 1
			}
			run(t, []check{{"Compare " + a + " " + b, of(Compare(a, b)), count(want)}})
		}
	}
}

// P2.2
func TestBits(t *testing.T) {
	run(t, []check{
		{"0", of(Bits("0")), count(0)},
		{"1", of(Bits("1")), count(1)},
		{"-1", of(Bits("-1")), count(1)},
		{"255", of(Bits("255")), count(8)},
		{"-256", of(Bits("-256")), count(9)},
		{"2^32 less 1", of(Bits("4294967295")), count(32)},
		{"2^32", of(Bits("4294967296")), count(33)},
		{"2^64 less 1", of(Bits("-18446744073709551615")), count(64)},
		{"2^64", of(Bits("18446744073709551616")), count(65)},
		{"greatest", of(Bits(nines)), count(1329)},
	})
}
