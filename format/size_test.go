package format

import (
	"cabochon/api"
	"math"
	"strconv"
	"strings"
	"testing"
)

// P4.2: widths and precisions, also at their limits, in the form and from a *.
func TestSizes(t *testing.T) {
	blanks, zeros := strings.Repeat(" ", 1000), strings.Repeat("0", 1000)
	for _, n := range []int{1, 2, 3, 9, 10, 11, 99, 100, 101, 500, 999, 1000} {
		size := strconv.Itoa(n)
		formatted(t, "%"+size+"d", numbers(7), blanks[:n-1]+"7", 0)
		formatted(t, "%-"+size+"d", numbers(7), "7"+blanks[:n-1], 0)
		formatted(t, "%0"+size+"d", numbers(7), zeros[:n-1]+"7", 0)
		formatted(t, "%00"+size+"x", numbers(7), zeros[:n-1]+"7", 0)
		formatted(t, "%0-0"+size+"d", numbers(7), "7"+blanks[:n-1], 0)
		formatted(t, "%."+size+"d", numbers(7), zeros[:n-1]+"7", 0)
		formatted(t, "%.0"+size+"d", numbers(-7), "-"+zeros[:n-1]+"7", 0)
		formatted(t, "%.0000"+size+"d", numbers(0), zeros[:n], 0)
		formatted(t, "%"+size+"s", words("a"), blanks[:n-1]+"a", 0)
		formatted(t, "%-"+size+"p", words(""), `""`+blanks[:max(n-2, 0)], 0)
		formatted(t, "%"+size+"c", words("a"), blanks[:n-1]+"a", 0)
		formatted(t, "%."+size+"s", words(zeros+zeros), zeros[:n], 0)
		formatted(t, "%*d", numbers(n, 7), blanks[:n-1]+"7", 0)
		formatted(t, "%*d", numbers(-n, 7), "7"+blanks[:n-1], 0)
		formatted(t, "%-*d", numbers(n, 7), "7"+blanks[:n-1], 0)
		formatted(t, "%-*d", numbers(-n, 7), "7"+blanks[:n-1], 0)
		formatted(t, "%0*d", numbers(n, 7), zeros[:n-1]+"7", 0)
		formatted(t, "%0*d", numbers(-n, 7), "7"+blanks[:n-1], 0)
		formatted(t, "%*s", []Arg{{Int: -n}, {IsText: true, Text: "a"}}, "a"+blanks[:n-1], 0)
		formatted(t, "%*c", numbers(n, 'a'), blanks[:n-1]+"a", 0)
		formatted(t, "%.*d", numbers(n, 7), zeros[:n-1]+"7", 0)
		formatted(t, "%0*.*d", numbers(n, n, 7), zeros[:n-1]+"7", 0)
		formatted(t, "%.*s", []Arg{{Int: n}, {IsText: true, Text: zeros + zeros}}, zeros[:n], 0)
		formatted(t, "%<n>-"+size+"d", []Arg{{Name: "n", Int: 7}}, "7"+blanks[:n-1], 0)
	}
	formatted(t, "%1000.1000d", numbers(-7), "-"+zeros[:999]+"7", 0)
	formatted(t, "%01000d", numbers(-7), "-"+zeros[:998]+"7", 0)
}

// P4.2: a width of 0 and a precision below 0 are none; what a * asks for is taken in the order of the form.
func TestStars(t *testing.T) {
	formatted(t, "%*d", numbers(0, 7), "7", 0)
	formatted(t, "%-*d|", numbers(0, 7), "7|", 0)
	formatted(t, "%0*d", numbers(0, -7), "-7", 0)
	for _, n := range []int{-1, -2, -1000, -1001, math.MinInt} {
		formatted(t, "%.*d", numbers(n, 0), "0", 0)
		formatted(t, "%.*d", numbers(n, 7), "7", 0)
		formatted(t, "%04.*d", numbers(n, 7), "0007", 0)
		formatted(t, "%-4.*d", numbers(n, 7), "7   ", 0)
		formatted(t, "%.*s", []Arg{{Int: n}, {IsText: true, Text: "abc"}}, "abc", 0)
		formatted(t, "%.*p", []Arg{{Int: n}, {IsText: true, Text: "abc"}}, `"abc"`, 0)
		formatted(t, "%.*c", numbers(n, 'a'), "a", 0)
	}
	formatted(t, "%.*d", numbers(0, 0), "", 0)
	formatted(t, "%04.*d", numbers(0, 7), "   7", 0)
	formatted(t, "%.*s", []Arg{{}, {IsText: true, Text: "abc"}}, "", 0)
	formatted(t, "%.*c", numbers(0, 'a'), "a", 0)
	formatted(t, "%*.*d", numbers(5, 3, 7), "  007", 0)
	formatted(t, "%*.*d", numbers(-5, 3, 7), "007  ", 0)
	formatted(t, "%0*.*d", numbers(5, -3, 7), "00007", 0)
	formatted(t, "%0*.*d", numbers(-5, -3, 7), "7    ", 0)
	formatted(t, "%5.*d%*.1d", numbers(3, 7, 4, 8), "  007   8", 0)
	formatted(t, "%*.d", numbers(3, 0), "   ", 0)
	formatted(t, "%*d%d", numbers(-3, 7, 8), "7  8", 0) // the width of one field is not that of the next one
	formatted(t, "%.*d%d", numbers(3, 7, 0), "0070", 0)
	formatted(t, "%*d", numbers(12, 34), "          34", 0)

	for _, n := range []int{1001, 1002, 2000, 1 << 32, 1<<32 + 5, math.MaxInt} {
		notFormatted(t, "%*d", numbers(n, 7), api.ErrArg)
		notFormatted(t, "%-*s", numbers(n, 7), api.ErrArg)
		notFormatted(t, "%*d", numbers(-n, 7), api.ErrArg)
		notFormatted(t, "%.*d", numbers(n, 7), api.ErrArg)
		notFormatted(t, "%.*s", numbers(n, 7), api.ErrArg)
		notFormatted(t, "%.*c", numbers(n, 7), api.ErrArg)
		notFormatted(t, "%*.*d", numbers(5, n, 7), api.ErrArg)
		notFormatted(t, "%*.*d", numbers(n, 5, 7), api.ErrArg)
	}
	notFormatted(t, "%*d", numbers(math.MinInt, 7), api.ErrArg)
	notFormatted(t, "%*d", numbers(-1<<32, 7), api.ErrArg)
	notFormatted(t, "%*d", numbers(-1<<32-5, 7), api.ErrArg)
	for _, text := range []string{"", "5", "0", "-5", "x"} {
		notFormatted(t, "%*d", mixed(words(text), numbers(7)), api.ErrArg)
		notFormatted(t, "%.*d", mixed(words(text), numbers(7)), api.ErrArg)
		notFormatted(t, "%*.*d", mixed(numbers(5), words(text), numbers(7)), api.ErrArg)
		notFormatted(t, "%*c", mixed(words(text), numbers(7)), api.ErrArg)
		notFormatted(t, "%.*c", mixed(words(text), numbers(7)), api.ErrArg)
	}
}

// P4.2, P4.3: arguments that are not taken are let be, whatever they are.
func TestMoreArguments(t *testing.T) {
	formatted(t, "", numbers(1, 2), "", 2)
	formatted(t, "abc", words("a"), "abc", 1)
	formatted(t, "%%", numbers(1), "%", 1)
	formatted(t, "%d", numbers(1), "1", 0)
	formatted(t, "%d", numbers(1, 2), "1", 1)
	formatted(t, "%d", mixed(numbers(1), words("x", "y")), "1", 2)
	formatted(t, "%d%s", mixed(numbers(1, 2, -1000), words("")), "12", 2)
	formatted(t, "%*.*d", numbers(5, 3, 7, 8), "  007", 1)
	formatted(t, "%c", mixed(numbers(65), words(strings.Repeat("x", 200000))), "A", 1)
	formatted(t, "%d%%%d%%", numbers(1, 2, 3), "1%2%", 1)
	formatted(t, strings.Repeat("%d", 1000), numbers(make([]int, 1500)...), strings.Repeat("0", 1000), 500)
}

// P4.2, P4.3: names.
func TestNamed(t *testing.T) {
	args := []Arg{
		{Int: 99}, {Name: "a", Int: 1}, {Name: "b", IsText: true, Text: "two"}, {Name: "a", Int: 3}, {IsText: true, Text: "none"},
		{Name: "a", IsText: true, Text: "x"}, {Name: "a_b", Int: 4}, {Name: "_", Int: 5}, {Name: "A", Int: 6}, {Name: "b", Int: 7}, {Name: "aa", Int: -8}, {Name: "", Int: 9}, {Name: "a b", Int: 10}, {Name: "<a>", Int: 11},
	}
	for _, c := range []struct{ form, want string }{
		{"%<a>d", "1"}, {"%<a>d%<a>d", "11"}, {"%<b>s", "two"}, {"%<b>s %<a>d %<b>s", "two 1 two"}, {"%<a_b>d%<_>d", "45"}, {"%<aa>d", "-8"}, {"%<aa>d%<a>d", "-81"},
		{"%<a>05d|%<a>-5d|%<a>+d|%<a>.3d|%<aa>#x", "00001|1    |+1|001|-0x8"}, {"%<b>.2s%<b>5s%<b>c%<b>p", "tw  twot\"two\""}, {"%%%<a>s%%", "%1%"},
	} {
		formatted(t, c.form, args, c.want, 0)
	}
	formatted(t, "%<n>d", []Arg{{Name: "n", Int: 5}, {Name: "n", Int: 6}}, "5", 0)
	formatted(t, "%<n>d", []Arg{{Name: "n", Int: 5}, {Name: "n", IsText: true}}, "5", 0)
	formatted(t, "%<n>c", []Arg{{Name: "n", Int: 65}, {Name: "n", Int: -1}}, "A", 0)

	notFormatted(t, "%<n>d", nil, api.ErrName)
	for _, form := range []string{"%<c>d", "%<ab>d", "%<b_>s", "%<aaa>d", "%<__>d", "%<none>s", "%<n>d"} {
		notFormatted(t, form, args, api.ErrName)
		notFormatted(t, "%<a>d"+form, args, api.ErrName)
		notFormatted(t, form+"%<a>d", args, api.ErrName)
	}
	notFormatted(t, "%<n>d", []Arg{{Int: 1}, {IsText: true, Text: "n"}}, api.ErrName)
	notFormatted(t, "%<n>d", []Arg{{Name: "n", IsText: true, Text: "x"}, {Name: "n", Int: 6}}, api.ErrArg)
	notFormatted(t, "%<n>c", []Arg{{Name: "n", IsText: true}, {Name: "n", Int: 65}}, api.ErrArg)
	notFormatted(t, "%<b>d", args, api.ErrArg)

	// In a format without names they are not looked at.
	formatted(t, "%d%s", []Arg{{Name: "a", Int: 1}, {Name: "a", IsText: true, Text: "two"}}, "1two", 0)
	formatted(t, "%*d%d", []Arg{{Name: "b", Int: -3}, {Name: "a", Int: 1}, {Int: 2}, {Name: "c"}}, "1  2", 1)
	formatted(t, "abc", []Arg{{Name: "b"}, {Name: "a"}}, "abc", 2)
	formatted(t, "%%", []Arg{{Name: "b"}}, "%", 1)
	notFormatted(t, "%d%d", []Arg{{Name: "b"}}, api.ErrEnd)
}
