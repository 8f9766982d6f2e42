package format

import (
	"cabochon/api"
	"strings"
	"testing"
)

// P4.1: no argument is left.
func TestNoneLeft(t *testing.T) {
	for _, letter := range allLetters {
		one := string(letter)
		notFormatted(t, "%"+one, nil, api.ErrEnd)
		notFormatted(t, "%-05.3"+one, nil, api.ErrEnd)
		notFormatted(t, "%"+one+"%"+one, numbers(65), api.ErrEnd)
		notFormatted(t, "%*"+one, nil, api.ErrEnd)
		notFormatted(t, "%.*"+one, nil, api.ErrEnd)
		notFormatted(t, "%*"+one, numbers(5), api.ErrEnd)
		notFormatted(t, "%.*"+one, numbers(5), api.ErrEnd)
		notFormatted(t, "%*.*"+one, numbers(5), api.ErrEnd)
		notFormatted(t, "%*.*"+one, numbers(5, 5), api.ErrEnd)
		notFormatted(t, "abc%%"+"%"+one, []Arg{}, api.ErrEnd)
	}
	notFormatted(t, strings.Repeat("%d", 1000), numbers(make([]int, 999)...), api.ErrEnd)
}

// P4.1: of several errors, the one at the front.
func TestOrderOfErrors(t *testing.T) {
	// Of a format without names: arguments that do not fit ahead of missing ones, and behind them.
	notFormatted(t, "%d%d", words("x"), api.ErrArg)
	notFormatted(t, "%c%d", numbers(256), api.ErrArg)
	notFormatted(t, "%c%d", words(""), api.ErrArg)
	notFormatted(t, "%d%d%d", mixed(numbers(1), words("x")), api.ErrArg)
	notFormatted(t, "%s%d%d", words("x", "1"), api.ErrEnd)
	notFormatted(t, "%*d", words("5"), api.ErrArg)
	notFormatted(t, "%*d", numbers(1001), api.ErrArg)
	notFormatted(t, "%*d", numbers(-1001), api.ErrArg)
	notFormatted(t, "%.*d", numbers(1001), api.ErrArg)
	notFormatted(t, "%.*d", words("5"), api.ErrArg)
	notFormatted(t, "%*.*d", numbers(1001), api.ErrArg)
	notFormatted(t, "%*.*d", numbers(5, 1001), api.ErrArg)
	notFormatted(t, "%*.*d", numbers(1000, 1000), api.ErrEnd)
	// Of a format with names.
	both := []Arg{{Name: "a", Int: 256}, {Name: "b", IsText: true, Text: "x"}}
	notFormatted(t, "%<a>c%<c>d", both, api.ErrArg)
	notFormatted(t, "%<c>d%<a>c", both, api.ErrName)
	notFormatted(t, "%<b>d%<c>d", both, api.ErrArg)
	notFormatted(t, "%<c>d%<b>d", both, api.ErrName)
	notFormatted(t, "%<a>d%<b>s%<c>d%<b>d", both, api.ErrName)
	// A malformed format comes ahead of all of them.
	notFormatted(t, "%d%y", nil, api.ErrForm)
	notFormatted(t, "%d%y", words("x"), api.ErrForm)
	notFormatted(t, "%<c>d%y", both, api.ErrForm)
	notFormatted(t, "%<a>c%1001d", both, api.ErrForm)
	notFormatted(t, "%<c>d%d", both, api.ErrForm)
	notFormatted(t, "%<a>c%<b>*d", both, api.ErrForm)
	notFormatted(t, "%*d%", words("x"), api.ErrForm)
	notFormatted(t, "%s%y", words(strings.Repeat("x", 100001)), api.ErrForm)
	notFormatted(t, "%d"+strings.Repeat(" ", 1999), nil, api.ErrForm)
}

// P4.1: results of 100000 bytes, and of more.
func TestLongResults(t *testing.T) {
	most := strings.Repeat("x", 100000)
	formatted(t, "%s", words(most), most, 0)
	formatted(t, "%5s", words(most), most, 0)
	formatted(t, "%.1000s", words(most+most), most[:1000], 0)
	formatted(t, "%c", words(most+most), "x", 0)
	formatted(t, "%p", words(most[2:]), `"`+most[2:]+`"`, 0)
	formatted(t, "%.1000p", words(most), `"`+most[:999], 0)
	formatted(t, "%p", words(strings.Repeat("\n", 49999)), `"`+strings.Repeat(`\n`, 49999)+`"`, 0)
	formatted(t, "ab%s", words(most[2:]), "ab"+most[2:], 0)
	formatted(t, "%s%%", words(most[1:]), most[1:]+"%", 0)
	formatted(t, "%s%s", words(most, ""), most, 0)
	formatted(t, "%s%.0d", mixed(words(most), numbers(0)), most, 0)
	formatted(t, strings.Repeat("%1000d", 100), numbers(make([]int, 100)...), strings.Repeat(strings.Repeat(" ", 999)+"0", 100), 0)
	formatted(t, "%<n>s", []Arg{{Name: "n", IsText: true, Text: most}}, most, 0)

	notFormatted(t, "%s", words(most+"x"), api.ErrArg)
	notFormatted(t, "%p", words(most), api.ErrArg)
	notFormatted(t, "%p", words(most[1:]), api.ErrArg)
	notFormatted(t, "%p", words(strings.Repeat("\n", 50000)), api.ErrArg)
	notFormatted(t, "x%s", words(most), api.ErrArg)
	notFormatted(t, "%sx", words(most), api.ErrArg)
	notFormatted(t, "%s%%", words(most), api.ErrArg)
	notFormatted(t, "%s%d", mixed(words(most), numbers(1)), api.ErrArg)
	notFormatted(t, "%s%c", words(most, "a"), api.ErrArg)
	notFormatted(t, "%s%1s", words(most, ""), api.ErrArg)
	notFormatted(t, "%s%s", words(most, most), api.ErrArg)
	notFormatted(t, strings.Repeat("%1000d", 101), numbers(make([]int, 101)...), api.ErrArg)
	notFormatted(t, "%<n>s%<n>s", []Arg{{Name: "n", IsText: true, Text: most[:50001]}}, api.ErrArg)

	// It counts where it is, before and behind other errors.
	notFormatted(t, "%s%d", words(most+"x"), api.ErrArg)
	notFormatted(t, "%sx%d", words(most), api.ErrArg)
	notFormatted(t, "%s%%%d", words(most), api.ErrArg)
	notFormatted(t, "%s%d", words(most), api.ErrEnd)
	notFormatted(t, "%s%dx", words(most), api.ErrEnd)
	notFormatted(t, "%s%dx", words(most[1:]), api.ErrEnd)
	notFormatted(t, "%s%*d", mixed(words(most), numbers(5)), api.ErrEnd)
	long := []Arg{{Name: "n", IsText: true, Text: most}}
	notFormatted(t, "%<n>s%<m>s", long, api.ErrName)
	notFormatted(t, "%<n>s%<n>s%<m>s", long, api.ErrArg)
	notFormatted(t, "%<m>s%<n>s%<n>s", long, api.ErrName)
	notFormatted(t, "%<n>s.%<m>s", long, api.ErrArg)
}
