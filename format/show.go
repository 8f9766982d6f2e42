package format

import (
	"strconv"
	"strings"
)

// The flags.
const (
	toLeft     = "-"
	withZeros  = "0"
	withPlus   = "+"
	withBlank  = " "
	withPrefix = "#"
)

// numberEnd is above the numbers of 18 digits, the longest ones of texts.
const numberEnd = 1000000000000000000

// shown returns what d is filled with by an argument, and false if that does not fit.
func (d field) shown(arg Arg) (string, bool) {
	switch {
	case d.isNumber:
		n, ok := number(arg)
		return d.wide(d.ofNumber(n)), ok
	case d.letter == 'c':
		text, ok := oneByte(arg)
		return d.wide(text), ok
	}
	text := arg.Text
	if !arg.IsText {
		text = strconv.Itoa(arg.Int)
	}
	if d.letter == 'p' {
		text = quoted(text)
	}
	if d.hasPrecision {
		text = text[:min(len(text), d.precision.count)]
	}
	return d.wide(text), true
}

// number returns the number that an argument is, and false if it is a text that is none.
func number(arg Arg) (int, bool) {
	if !arg.IsText {
		return arg.Int, true
	}
	if arg.Text == "-0" {
		return 0, true
	}
	n, err := strconv.Atoi(arg.Text)
	ok := err == nil && n > -numberEnd && n < numberEnd && strconv.Itoa(n) == arg.Text
	return n, ok
}

// oneByte returns the byte that c shows of an argument, and false if there is none.
func oneByte(arg Arg) (string, bool) {
	if arg.IsText {
		return arg.Text[:min(len(arg.Text), 1)], arg.Text != ""
	}
	return string([]byte{byte(arg.Int)}), arg.Int >= 0 && arg.Int <= 255
}

// quoted returns what p shows of a text.
func quoted(text string) string {
	return `"` + strings.NewReplacer(`\`, `\\`, `"`, `\"`, "\n", `\n`).Replace(text) + `"`
}

// ofNumber returns what d shows of a number, without the blanks around it.
func (d field) ofNumber(n int) string {
	digits, below := strings.CutPrefix(strconv.FormatInt(int64(n), d.base.radix), "-")
	if d.letter == 'X' {
		digits = strings.ToUpper(digits)
	}
	if d.hasPrecision {
		digits = d.precise(digits)
	}
	front := d.sign(below) + d.prefix(digits)
	if d.has(withZeros) && !d.has(toLeft) && !d.hasPrecision {
		digits = filling("0", d.width.count-len(front)-len(digits)) + digits
	}
	return front + digits
}

// precise returns digits with the zeros that the precision puts in front of them.
func (d field) precise(digits string) string {
	if digits == "0" && d.precision.count == 0 {
		return ""
	}
	return filling("0", d.precision.count-len(digits)) + digits
}

// sign returns what d shows of a number's sign.
func (d field) sign(below bool) string {
	switch {
	case below:
		return "-"
	case d.has(withPlus):
		return "+"
	case d.has(withBlank):
		return " "
	}
	return ""
}

// prefix returns the prefix that d puts in front of these digits.
func (d field) prefix(digits string) string {
	isZero := strings.Trim(digits, "0") == ""
	if !d.has(withPrefix) || isZero || d.letter == 'o' && digits[0] == '0' {
		return ""
	}
	return d.base.prefix
}

// wide returns text with the blanks that it has in d's width.
func (d field) wide(text string) string {
	blanks := filling(" ", d.width.count-len(text))
	if d.has(toLeft) {
		return text + blanks
	}
	return blanks + text
}

// filling returns a symbol so many times, never if count is below 0.
func filling(symbol string, count int) string {
	return strings.Repeat(symbol, max(count, 0))
}
