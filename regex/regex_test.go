package regex

import (
	"cabochon/api"
	"slices"
	"strings"
	"testing"
)

const (
	plenty = 1000000
	// none is where a group is that matched nothing.
	none = -1
)

// pairs returns numbers two by two.
func pairs(numbers ...int) [][2]int {
	var list [][2]int
	for i := 0; i+1 < len(numbers); i += 2 {
		list = append(list, [2]int{numbers[i], numbers[i+1]})
	}
	return list
}

// finds tries a match from 0 whose whole and groups are from where to where.
func finds(t *testing.T, pattern, text string, ends ...int) {
	t.Helper()
	findsFrom(t, pattern, text, 0, ends...)
}

func findsFrom(t *testing.T, pattern, text string, from int, ends ...int) {
	t.Helper()
	got, err := Match(pattern, text, from, plenty)
	if err != api.OK || !slices.Equal(got.Groups, pairs(ends...)) {
		t.Errorf("%q in %q from %d: %v, error %d, not %v", pattern, text, from, got.Groups, err, pairs(ends...))
	}
}

// misses tries texts in which a pattern has no match.
func misses(t *testing.T, pattern string, texts ...string) {
	t.Helper()
	for _, text := range texts {
		got, err := Match(pattern, text, 0, plenty)
		if err != api.ErrNone || got.Groups != nil || got.Steps != 0 {
			t.Errorf("%q in %q: %v, error %d", pattern, text, got, err)
		}
	}
}

// malformed tries all functions on patterns that are none.
func malformed(t *testing.T, patterns ...string) {
	t.Helper()
	for _, pattern := range patterns {
		if err := Check(pattern); err != api.ErrForm {
			t.Errorf("Check(%q): error %d", pattern, err)
		}
		for what, err := range triesAll(t, pattern, "a", 0, plenty) {
			if err != api.ErrForm {
				t.Errorf("%s of %q: error %d", what, pattern, err)
			}
		}
	}
}

// triesAll returns the errors of all functions that have one, by their names. Beside an error there is nothing.
func triesAll(t *testing.T, pattern, text string, from, budget int) map[string]api.Errno {
	t.Helper()
	errs := map[string]api.Errno{"Check": Check(pattern)}
	note := func(what string, isZero bool, err api.Errno) {
		if err != api.OK && !isZero {
			t.Errorf("%s of %q: a result beside error %d", what, pattern, err)
		}
		errs[what] = err
	}
	n, err := Groups(pattern)
	note("Groups", n == 0, err)
	found, err := Match(pattern, text, from, budget)
	note("Match", found.Groups == nil && found.Steps == 0, err)
	list, err := All(pattern, text, budget)
	note("All", list == nil, err)
	s, err := Replace(pattern, text, "x", budget)
	note("Replace", s == "", err)
	parts, err := Split(pattern, text, budget)
	note("Split", parts == nil, err)
	b, err := Whole(pattern, text, budget)
	note("Whole", !b, err)
	return errs
}

// wellFormed tries a pattern with so many groups.
func wellFormed(t *testing.T, groups int, patterns ...string) {
	t.Helper()
	for _, pattern := range patterns {
		if err := Check(pattern); err != api.OK {
			t.Errorf("Check(%q): error %d", pattern, err)
		}
		if n, err := Groups(pattern); n != groups || err != api.OK {
			t.Errorf("Groups(%q): %d, error %d, not %d", pattern, n, err, groups)
		}
	}
}

// P7.2: the examples of the chapter, and ordinary patterns.
func TestMatch(t *testing.T) {
	finds(t, "(a|ab)(c|bcd)(d*)", "abcd", 0, 4, 0, 1, 1, 4, 4, 4)
	misses(t, "a*+a", "aaa")
	finds(t, "b+", "abba", 1, 3)
	finds(t, `\d+-\d+`, "tel 12-345.", 4, 10)
	finds(t, `(\w+)@(\w+)\.org`, "to me_1@here.org", 3, 16, 3, 7, 8, 12)
	finds(t, "x", "aax", 2, 3)
	finds(t, "", "", 0, 0)
	finds(t, "", "abc", 0, 0)
	misses(t, "a", "", "b", "A", "\n")
	misses(t, "abc", "ab", "bc", "acb", "ababab")
	finds(t, "a\x00b", "a\x00b", 0, 3)
	finds(t, "\u00E9+", "\u00E9\u00E9\xA9", 0, 2) // a pattern is bytes
	finds(t, "[\u00E9]+", "\u00E9\u00E9", 0, 4)
	misses(t, "\u00E9\u00E9", "\u00E9+")
}

// P7.2: from a place on, in a text that begins at 0 all the same.
func TestMatchFrom(t *testing.T) {
	findsFrom(t, "a", "aba", 0, 0, 1)
	findsFrom(t, "a", "aba", 1, 2, 3)
	findsFrom(t, "a*", "aba", 3, 3, 3)
	findsFrom(t, "(b)?", "aba", 1, 1, 2, 1, 2)
	findsFrom(t, "^a", "aa\na", 1, 3, 4)
	findsFrom(t, `\b`, "aa", 1, 2, 2)
	findsFrom(t, `\B`, "aaa", 1, 1, 1)
	findsFrom(t, `\z`, "aa", 1, 2, 2)
	findsFrom(t, "(?!a)", "aab", 1, 2, 2)
	for _, c := range []struct {
		pattern string
		from    int
	}{{`\Aa`, 1}, {"^a", 1}, {"a", 2}, {`\ba`, 1}, {"ab", 1}} {
		if got, err := Match(c.pattern, "aab"[:2], c.from, plenty); err != api.ErrNone {
			t.Errorf("%q from %d: %v, error %d", c.pattern, c.from, got, err)
		}
	}
}

// P7.2: alternatives from the left, whatever is longer.
func TestAlternatives(t *testing.T) {
	finds(t, "a|ab", "ab", 0, 1)
	finds(t, "ab|a", "ab", 0, 2)
	finds(t, "(?:a|ab)c", "abc", 0, 3)
	finds(t, "b|a", "ab", 0, 1) // the first place counts, not the first alternative
	finds(t, "x|y|z", "az", 1, 2)
	finds(t, "|a", "a", 0, 0)
	finds(t, "a|", "b", 0, 0)
	finds(t, "a|", "a", 0, 1)
	finds(t, "|", "a", 0, 0)
	finds(t, "a||b", "b", 0, 0)
	finds(t, "(|a)b", "ab", 0, 2, 0, 1)
	finds(t, "(a|)b", "b", 0, 1, 0, 0)
	finds(t, "(||)", "b", 0, 0, 0, 0)
	finds(t, "()", "b", 0, 0, 0, 0)
	finds(t, "(?:)b", "b", 0, 1)
	finds(t, "(a)|(b)", "b", 0, 1, none, none, 0, 1)
	finds(t, "(?:(a)|b)c", "ac", 0, 2, 0, 1)
	finds(t, "(?:(a)b|a(b))c", "abc", 0, 3, 0, 1, none, none)
	finds(t, "(?:(a)b|a(b))d|(a)bc", "abc", 0, 3, none, none, none, none, 0, 1)
	finds(t, "a(?:b|bc|bcd)(?:d|e|)z", "abcez", 0, 5)
}

// P7.2: greedy, lazy and possessive repeats.
func TestRepeats(t *testing.T) {
	as := strings.Repeat("a", 6)
	for _, c := range []struct {
		repeat      string
		least, most int // of rounds in six of them
	}{
		{"*", 0, 6}, {"+", 1, 6}, {"?", 0, 1}, {"{0}", 0, 0}, {"{1}", 1, 1}, {"{2}", 2, 2}, {"{6}", 6, 6}, {"{0,}", 0, 6}, {"{1,}", 1, 6}, {"{3,}", 3, 6}, {"{6,}", 6, 6},
		{"{0,0}", 0, 0}, {"{0,1}", 0, 1}, {"{0,2}", 0, 2}, {"{2,2}", 2, 2}, {"{2,3}", 2, 3}, {"{2,5}", 2, 5}, {"{1,100}", 1, 6}, {"{0,100}", 0, 6}, {"{5,7}", 5, 6},
	} {
		for _, atom := range []string{"a", "[ab]", "(?:a)", `\w`, "(?:b|a)", "(?>a)"} {
			piece := atom + c.repeat
			finds(t, piece, as, 0, c.most)
			finds(t, piece+"?", as, 0, c.least)
			finds(t, piece+"+", as, 0, c.most)
			finds(t, piece+`?\z`, as, max(0, 6-c.most), 6)
			for n := range 7 {
				text := strings.Repeat("a", n) + "-"
				for _, suffix := range []string{"", "?", "+"} {
					if n < c.least || n > c.most {
						misses(t, `\A`+piece+suffix+"-", text)
					} else {
						finds(t, `\A`+piece+suffix+"-", text, 0, n+1)
					}
				}
			}
		}
	}
	misses(t, "a{7}", as)
	misses(t, "a{7,}?", as)
	misses(t, "a{100}", strings.Repeat("a", 99))
	finds(t, "a{100}", strings.Repeat("a", 101), 0, 100)
	finds(t, "a{99,100}", strings.Repeat("a", 101), 0, 100)
	finds(t, "a{99,100}?", strings.Repeat("a", 101), 0, 99)
	finds(t, "a{100,}", strings.Repeat("a", 5000), 0, 5000)
	finds(t, "(?:a{50}){100}", strings.Repeat("a", 5000), 0, 5000)
	finds(t, "(?:a?){100}", "aab", 0, 2)
	finds(t, "(a{2}){2}", "aaaaa", 0, 4, 2, 4)
}

// P7.2: which way is first when what follows does not match behind the longest or shortest one.
func TestGoingBack(t *testing.T) {
	finds(t, "(a*)(a*)", "aaa", 0, 3, 0, 3, 3, 3)
	finds(t, "(a*)(a+)", "aaa", 0, 3, 0, 2, 2, 3)
	finds(t, "(a*?)(a*)", "aaa", 0, 3, 0, 0, 0, 3)
	finds(t, "(a+?)(a*?)", "aaa", 0, 1, 0, 1, 1, 1)
	finds(t, `(a+?)(a*?)\z`, "aaa", 0, 3, 0, 1, 1, 3)
	finds(t, "(a{1,2})(a{1,2})", "aaa", 0, 3, 0, 2, 2, 3)
	finds(t, "(a{1,2}?)(a{1,2})", "aaa", 0, 3, 0, 1, 1, 3)
	finds(t, "(a?)(ab)?", "ab", 0, 1, 0, 1, none, none)
	finds(t, "(a??)(ab)?", "ab", 0, 2, 0, 0, 0, 2)
	finds(t, "(.*)(b+)", "abbab", 0, 5, 0, 4, 4, 5)
	finds(t, "(.*?)(b+)", "abbab", 0, 3, 0, 1, 1, 3)
	finds(t, "(?:a|ab)(?:c|bcd)*(d*)", "abcd", 0, 4, 4, 4)
	finds(t, "(?:ab|a)(?:bcd|c)*(d*)", "abcd", 0, 4, 3, 4)
	finds(t, "(a|b|ab)*c", "abc", 0, 3, 1, 2)
	finds(t, "(ab|a|b)*c", "abc", 0, 3, 0, 2)
}

// P7.2: of what is possessive, atomic or ahead there is the first way alone.
func TestFirstWayAlone(t *testing.T) {
	misses(t, "(?>a|ab)c", "abc")
	finds(t, "(?>ab|a)c", "abc", 0, 3)
	misses(t, "(?>a*)a", "aaa")
	misses(t, "(?>a*)ab", "aaab")
	finds(t, "(?>a*?)ab", "aaab", 2, 4)
	finds(t, "(?>a*)b", "aaab", 0, 4)
	finds(t, "(?>a|)b", "b", 0, 1)
	finds(t, "(?>|a)b", "ab", 1, 2)
	finds(t, "(?>(a|ab)(c|bcd))(d*)", "abcd", 0, 4, 0, 1, 1, 4, 4, 4)
	finds(t, "(?>a+)+", "aaa", 0, 3)
	for _, repeat := range []string{"a*+", "a++", "a{1,3}+", "a{2,}+", "a{0,3}+"} {
		misses(t, repeat+"a", "aaa")
		finds(t, repeat+"b", "aaab", 0, 4)
	}
	misses(t, `\Aa?+a`, "a")
	finds(t, `\Aa?+a`, "aa", 0, 2)
	misses(t, `\Aa{1,2}+a`, "aa")
	finds(t, `\Aa{2}+a`, "aaa", 0, 3)
	finds(t, "(?:a|ab){2}+", "abab", 0, 3) // going back within it
	finds(t, `\A(?:a|ab){2}+\z`, "aba", 0, 3)
	misses(t, `\A(?:a|ab){2}+\z`, "abab")
	finds(t, `\A(?:a|ab){2}\z`, "abab", 0, 4)
	misses(t, `\A(?:a|ab)*+\z`, "ab")
	finds(t, `\A(?:a|ab)*\z`, "ab", 0, 2)
	finds(t, "(?=(a|ab))ab", "ab", 0, 2, 0, 1)
	misses(t, `(?=(a+))a*b\1`, "aabaa"[:3])
	finds(t, `(?=(a+))a*b\1`, "baaabac", 3, 6, 3, 4)
	misses(t, `(?=(a|ab))\1c`, "abc")
}

// P7.2: looking ahead, at the end of the text, too.
func TestAhead(t *testing.T) {
	finds(t, "a(?=b)", "aab", 1, 2)
	finds(t, "a(?!b)", "abaa", 2, 3)
	finds(t, "a(?!b)", "aba", 2, 3)
	misses(t, "a(?=b)", "a", "ac", "ba", "")
	misses(t, "a(?!b)", "ab", "b", "")
	finds(t, "(?=)", "", 0, 0)
	misses(t, "(?!)", "", "a")
	finds(t, "(?=a)", "ba", 1, 1)
	finds(t, "(?!a)", "a", 1, 1)
	finds(t, "(?!b)", "a", 0, 0)
	finds(t, `(?=\z)`, "a", 1, 1)
	finds(t, `(?!.|\n)`, "a\n", 2, 2)
	finds(t, "(?=ab)a", "aab", 1, 2)
	finds(t, "(?=a)(?=.b).", "aab", 1, 2)
	finds(t, "(?!(?!a)).", "ba", 1, 2)
	finds(t, "(?=(?=a).b)", "aab", 1, 1)
	finds(t, "(?=a*)b", "aab", 2, 3)
	finds(t, "(?:(?=a).)*", "aab", 0, 2)
	finds(t, "(?:(?!b).)+", "aab", 0, 2)
	finds(t, "(?=a)*", "a", 0, 0)
	misses(t, "(?=a)+b", "ab")
	finds(t, "(?=a)*b", "ab", 1, 2)
	finds(t, "(?!a){2,3}b", "ab", 1, 2)
	finds(t, "(?=a)??", "a", 0, 0)
	misses(t, "(?!a){1,}+a", "aa")
}
