package whole

import (
	"cabochon/api"
	"math"
	"strings"
	"testing"
)

// noRationals are strings that are no rationals.
var noRationals = append([]string{
	"/", "1/", "/2", "1/0", "1/1", "0/1", "0/2", "0/5", "2/4", "-2/4", "6/3", "4/2", "3/3", "1/-2", "-1/-2", "1/+2", "+1/2",
	"-0/2", "01/2", "1/02", "1//2", "1/2/3", "1/2/", " 1/2", "1 /2", "1/ 2", "1/2 ", "0.5", "1/2.0", "1_0/3", "1/1_0", "a/2", "1/b",
	ten + "/7", "1/" + ten, nines + "/" + nines, "3/" + nines, "1/2\x00",
}, withoutRationals(noNumbers)...)

// withoutRationals returns the strings that are no rationals either.
func withoutRationals(list []string) []string {
	var rest []string
	for _, s := range list {
		if s != "1/2" {
			rest = append(rest, s)
		}
	}
	return rest
}

// P2.1
func TestNoRationals(t *testing.T) {
	for _, s := range noRationals {
		run(t, []check{
			{"RatioAdd p " + s, of(RatioAdd(s, "1")), noText(api.ErrArg)},
			{"RatioAdd q " + s, of(RatioAdd("1/2", s)), noText(api.ErrArg)},
			{"RatioMul p " + s, of(RatioMul(s, "0")), noText(api.ErrArg)},
			{"RatioMul q " + s, of(RatioMul("0", s)), noText(api.ErrArg)},
			{"RatioCompare p " + s, of(RatioCompare(s, "1")), noInt(api.ErrArg)},
			{"RatioCompare q " + s, of(RatioCompare("1/2", s)), noInt(api.ErrArg)},
			{"Decimal " + s, of(Decimal(s, 0)), noText(api.ErrArg)},
		})
	}
}

// P2.4
func TestRationals(t *testing.T) {
	for _, s := range []string{"0", "1", "-1", "1/2", "-1/2", "3/2", "-3/2", "2/3", nines, "-" + nines, "1/" + nines, "-1/" + nines, nines + "/2", "-" + nines + "/" + before(nines)} {
		run(t, []check{
			{"RatioAdd " + s, of(RatioAdd(s, "0")), number(s)},
			{"RatioMul " + s, of(RatioMul("1", s)), number(s)},
			{"RatioCompare " + s, of(RatioCompare(s, s)), count(0)},
		})
	}
}

// P2.4
func TestRatio(t *testing.T) {
	run(t, []check{
		{"1 by 2", of(Ratio("1", "2")), number("1/2")},
		{"4 by 6", of(Ratio("4", "6")), number("2/3")},
		{"-4 by 6", of(Ratio("-4", "6")), number("-2/3")},
		{"4 by -6", of(Ratio("4", "-6")), number("-2/3")},
		{"-4 by -6", of(Ratio("-4", "-6")), number("2/3")},
		{"6 by 3", of(Ratio("6", "3")), number("2")},
		{"6 by -3", of(Ratio("6", "-3")), number("-2")},
		{"-5 by 1", of(Ratio("-5", "1")), number("-5")},
		{"5 by -1", of(Ratio("5", "-1")), number("-5")},
		{"0 by 7", of(Ratio("0", "7")), number("0")},
		{"0 by -7", of(Ratio("0", "-7")), number("0")},
		{"7 by 7", of(Ratio("-7", "-7")), number("1")},
		{"greatest by least", of(Ratio(nines, "-"+nines)), number("-1")},
		{"1 by least", of(Ratio("1", "-"+nines)), number("-1/" + nines)},
		{"greatest by 3", of(Ratio(nines, "3")), number(strings.Repeat("3", 400))},
		{"1 by 0", of(Ratio("1", "0")), noText(api.ErrZero)},
		{"0 by 0", of(Ratio("0", "0")), noText(api.ErrZero)},
		{"greatest by 0", of(Ratio(nines, "0")), noText(api.ErrZero)},
	})
}

// P2.4
func TestRatioAddAndMul(t *testing.T) {
	run(t, []check{
		{"1/2+1/3", of(RatioAdd("1/2", "1/3")), number("5/6")},
		{"1/6+1/3", of(RatioAdd("1/6", "1/3")), number("1/2")},
		{"1/2+1/2", of(RatioAdd("1/2", "1/2")), number("1")},
		{"1/2-1/2", of(RatioAdd("1/2", "-1/2")), number("0")},
		{"1/2-3/2", of(RatioAdd("1/2", "-3/2")), number("-1")},
		{"-1/2-1/3", of(RatioAdd("-1/2", "-1/3")), number("-5/6")},
		{"3+1/4", of(RatioAdd("3", "1/4")), number("13/4")},
		{"-3+0", of(RatioAdd("-3", "0")), number("-3")},
		{"1/2*2/3", of(RatioMul("1/2", "2/3")), number("1/3")},
		{"-1/2*2/3", of(RatioMul("-1/2", "2/3")), number("-1/3")},
		{"-1/2*-2/3", of(RatioMul("-1/2", "-2/3")), number("1/3")},
		{"2/3*3/2", of(RatioMul("2/3", "3/2")), number("1")},
		{"2/3*-3/2", of(RatioMul("2/3", "-3/2")), number("-1")},
		{"0*-2/3", of(RatioMul("0", "-2/3")), number("0")},
		{"-3*5", of(RatioMul("-3", "5")), number("-15")},
	})
}

// P2.1, P2.4
func TestRationalsOfTooManyDigits(t *testing.T) {
	less := before(nines)
	run(t, []check{
		{"sum", of(RatioAdd(nines, "1")), noText(api.ErrLimit)},
		{"sum below 0", of(RatioAdd("-1", "-"+nines)), noText(api.ErrLimit)},
		{"sum up to the limit", of(RatioAdd(less, "1")), number(nines)},
		{"its first number", of(RatioAdd(nines, "1/2")), noText(api.ErrLimit)},
		{"its second number", of(RatioAdd("1/"+nines, "-1/"+less)), noText(api.ErrLimit)},
		{"reduced sum", of(RatioAdd("1/"+nines, "2/"+nines)), number("1/" + strings.Repeat("3", 400))},
		{"sum that goes away", of(RatioAdd("-1/"+nines, "1/"+nines)), number("0")},
		{"product", of(RatioMul(nines, "-2")), noText(api.ErrLimit)},
		{"first number of a product", of(RatioMul(nines+"/2", "5/3")), noText(api.ErrLimit)},
		{"second number of a product", of(RatioMul("1/"+nines, "1/2")), noText(api.ErrLimit)},
		{"reduced product", of(RatioMul("-1/"+nines, nines)), number("-1")},
		{"reduced product of long ones", of(RatioMul(nines+"/"+less, less+"/"+nines)), number("1")},
		{"product of 0", of(RatioMul("1/"+nines, "0")), number("0")},
	})
}

// P2.4
func TestRatioCompare(t *testing.T) {
	list := []string{"-" + nines, "-3/2", "-1", "-2/3", "-1/2", "-1/" + nines, "0", "1/" + nines, "1/" + before(nines), "1/3", "1/2", "2/3", "1", next(before(nines)) + "/" + before(nines), "3/2", "2", nines + "/2", nines}
	for i, p := range list {
		for k, q := range list {
			want := 0
			if i < k {
				want = -1
			}
			if i > k {
				want = 1
			}
			run(t, []check{{"RatioCompare " + p + " " + q, of(RatioCompare(p, q)), count(want)}})
		}
	}
}

// P2.4
func TestDecimal(t *testing.T) {
	run(t, []check{
		{"0, 0 places", of(Decimal("0", 0)), number("0")},
		{"0, 2 places", of(Decimal("0", 2)), number("0.00")},
		{"7, 0 places", of(Decimal("7", 0)), number("7")},
		{"-7, 1 place", of(Decimal("-7", 1)), number("-7.0")},
		{"2/3", of(Decimal("2/3", 2)), number("0.67")},
		{"-2/3", of(Decimal("-2/3", 2)), number("-0.67")},
		{"1/3", of(Decimal("1/3", 5)), number("0.33333")},
		{"10/3", of(Decimal("10/3", 1)), number("3.3")},
		{"1/1000", of(Decimal("1/1000", 3)), number("0.001")},
		{"1/2", of(Decimal("1/2", 0)), number("1")},
		{"-1/2", of(Decimal("-1/2", 0)), number("-1")},
		{"3/2", of(Decimal("3/2", 0)), number("2")},
		{"5/2", of(Decimal("5/2", 0)), number("3")}, // not to the even one
		{"-5/2", of(Decimal("-5/2", 0)), number("-3")},
		{"1/8", of(Decimal("1/8", 2)), number("0.13")},
		{"-1/8", of(Decimal("-1/8", 2)), number("-0.13")},
		{"1/20", of(Decimal("1/20", 1)), number("0.1")},
		{"just below a half", of(Decimal("499/1000", 0)), number("0")},
		{"just above -1/2", of(Decimal("-499/1000", 0)), number("0")},
		{"-1/1000", of(Decimal("-1/1000", 2)), number("0.00")},
		{"-1/200", of(Decimal("-1/200", 2)), number("-0.01")},
		{"-1/201", of(Decimal("-1/201", 2)), number("0.00")},
		{"999/1000", of(Decimal("999/1000", 2)), number("1.00")},
		{"-999/1000", of(Decimal("-999/1000", 2)), number("-1.00")},
		{"-1/4, 0 places", of(Decimal("-1/4", 0)), number("0")},
		{"100 places", of(Decimal("-1/3", 100)), number("-0." + strings.Repeat("3", 100))},
		{"greatest, 100 places", of(Decimal("-"+nines, 100)), number("-" + nines + "." + strings.Repeat("0", 100))}, // of more than 400 digits
		{"1 by the greatest", of(Decimal("-1/"+nines, 100)), number("0." + strings.Repeat("0", 100))},
		{"greatest by 2", of(Decimal(nines+"/2", 0)), number("5" + strings.Repeat("0", 399))},
		{"near 1", of(Decimal(before(nines)+"/"+nines, 100)), number("1." + strings.Repeat("0", 100))},
	})
	for _, places := range []int{-1, 101, math.MinInt, math.MaxInt} {
		run(t, []check{{"Decimal with " + Of(places), of(Decimal("1/2", places)), noText(api.ErrArg)}})
	}
}
