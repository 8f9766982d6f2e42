package regex

import (
	"cabochon/api"
	"slices"
	"strings"
	"testing"
)

// P7.2: what a back reference stands for.
func TestBackReferences(t *testing.T) {
	finds(t, `(a)\1`, "baa", 1, 3, 1, 2)
	misses(t, `(a)\1`, "aba", "a", "")
	finds(t, `(.+)-\1`, "xab-abx", 1, 6, 1, 3)
	misses(t, `\A(.+)-\1\z`, "ab-abc", "ab-a", "ab-", "abc-ab")
	finds(t, `(a|b)(a|b)\2\1`, "abba", 0, 4, 0, 1, 1, 2)
	finds(t, `()\1`, "a", 0, 0, 0, 0) // an empty text is something that matched
	finds(t, `(a*)\1b`, "ab", 1, 2, 1, 1)
	finds(t, `(\n)\1`, "a\n\n", 1, 3, 1, 2)
	finds(t, "([\x80-\xFF])\\1", "\xFE\xFF\xFF", 1, 3, 1, 2)
	finds(t, `(a)\1{2}`, "aaaa", 0, 3, 0, 1)
	finds(t, `(ab)\1*`, "ababab", 0, 6, 0, 2)
	finds(t, `(a+)\1+\z`, "aaaaaa", 0, 6, 0, 3)
	finds(t, `(a+?)\1+\z`, "aaaaaa", 0, 6, 0, 1)
	finds(t, `(aa)\1?+`, "aaa", 0, 2, 0, 2)
	finds(t, `(A)\1|(a)\2`, "aAAaa", 1, 3, 1, 2, none, none)
	misses(t, `(a)\1`, "aA") // a letter is itself alone
}

// P7.2: a group that matched nothing yet, is open, or comes later.
func TestNothingMatchedYet(t *testing.T) {
	misses(t, `\1(a)`, "a", "aa", "")
	misses(t, `(\1)`, "", "a")
	misses(t, `(a\1)`, "a", "aa")
	misses(t, `(?:(a)|b)\1`, "b", "bb", "ba")
	misses(t, `(a)?\1b`, "b")
	misses(t, `(a){0}\1`, "a", "")
	finds(t, `(a){0}b`, "ab", 1, 2, none, none)
	finds(t, `(a)?\1?b`, "b", 0, 1, none, none)
	finds(t, `(a)|\1`, "ba", 1, 2, 1, 2)
	finds(t, `(?:\1b|(a))*`, "aab", 0, 3, 0, 1)
	finds(t, `(?:\1b|(a))*`, "aaab", 0, 4, 1, 2)
	finds(t, `(?:\1b|(a))*c`, "abaabc", 2, 6, 2, 3)
	finds(t, `(?:\2b|(a)()|c)*`, "abac", 0, 4, 2, 3, 3, 3)
	finds(t, `\A(?:(a)|\1b)+\z`, "aabab", 0, 5, 0, 1)
	finds(t, `(a|\1b)*\z`, "aab", 0, 3, 1, 3) // open in its second round: what it matched in the first one
	finds(t, `\A(a|\1b)*\z`, "aababb", 0, 6, 3, 6)
	finds(t, `\A(a|b\1)+\z`, "aba", 0, 3, 1, 3)
	finds(t, `(?:(a)|(b)|\1\2)*`, "abab", 0, 4, 2, 3, 3, 4)
	misses(t, `(?!(a))\1`, "b", "a")
	misses(t, `(?!(?!(a)))\1`, "aa", "a")
}

// P7.2: a group within a repeat keeps what it matched in an earlier round.
func TestGroupsWithinRepeats(t *testing.T) {
	finds(t, "(a)*", "aaa", 0, 3, 2, 3)
	finds(t, "(a)*", "b", 0, 0, none, none)
	finds(t, "(?:(a)|b)*", "ab", 0, 2, 0, 1)
	finds(t, "(?:(a)|b)*", "aab", 0, 3, 1, 2)
	finds(t, "(?:(a)|(b)|(c))*", "abcab", 0, 5, 3, 4, 4, 5, 2, 3)
	finds(t, "(?:(a)|b)+?c", "abbc", 0, 4, 0, 1)
	finds(t, "(?:(a)|b){3}", "abb", 0, 3, 0, 1)
	finds(t, "(?:(a)|b){2,3}+", "abb", 0, 3, 0, 1)
	finds(t, "((a)|b)*", "ab", 0, 2, 1, 2, 0, 1)
	finds(t, "(?:(a)(b)?)*", "abab", 0, 4, 2, 3, 3, 4)
	finds(t, "(?:(a)(b)?)*", "aba", 0, 3, 2, 3, 1, 2)
	finds(t, "(?:(a)?b)*", "abb", 0, 3, 0, 1)
	finds(t, "(?:((a)|b)c)*", "acbc", 0, 4, 2, 3, 0, 1)
	finds(t, `(?:(a)|b\1)*`, "aba", 0, 3, 0, 1)
	finds(t, "((a)*b)*", "aabb", 0, 4, 3, 4, 1, 2)
	finds(t, "(?:(a)|(?:(b)|c)*d)*", "acbd", 0, 4, 0, 1, 2, 3)
}

// P7.2: on going back a group has the place from before.
func TestGroupsOnGoingBack(t *testing.T) {
	finds(t, "(a)*ab", "aaab", 0, 4, 1, 2)
	finds(t, "(a)?ab", "ab", 0, 2, none, none)
	finds(t, "(?:(a)b|a)c", "abac", 2, 4, none, none)
	finds(t, "(?:(a)x|(a)y|az)", "az", 0, 2, none, none, none, none)
	finds(t, "(?:(a)|b)*b", "abb", 0, 3, 0, 1)
	finds(t, `(?:(a)|(b))*?b\z`, "abb", 0, 3, 0, 1, 1, 2)
	finds(t, "(a|b)*bc", "aabc", 0, 4, 1, 2)
	finds(t, "(?:(a)(b)|(a))*abc", "abababc", 0, 7, 2, 3, 3, 4, none, none)
	finds(t, "(?:(a)(b)|(a))*?abc", "abaabc", 0, 6, 0, 1, 1, 2, 2, 3)
	finds(t, `(a)(?:(b)\1c|b)`, "abad", 0, 2, 0, 1, none, none)
	finds(t, `(?:(a|ab)(c))?abd`, "abcabd", 0, 6, 0, 2, 2, 3)
	finds(t, `(?:(a|ab)(c))?abd`, "abd", 0, 3, none, none, none, none)
	finds(t, `((a)|(b)|(c))*bca`, "abcabca", 0, 7, 3, 4, 3, 4, 1, 2, 2, 3)
	findsFrom(t, "(a)?b", "aab", 0, 1, 3, 1, 2) // from another place on all begins anew
	finds(t, "(a)x|b", "ab", 1, 2, none, none)
	finds(t, "(?:(a)|b)*x|c", "abc", 2, 3, none, none)
}

// P7.2: groups within what looks ahead, and within what is atomic.
func TestGroupsWithinAhead(t *testing.T) {
	finds(t, "(?=(a)(b))a", "ab", 0, 1, 0, 1, 1, 2)
	finds(t, `(?=(a+))\1b`, "aab", 0, 3, 0, 2)
	finds(t, "(?=(a))?a", "a", 0, 1, 0, 1)
	finds(t, "(?:(?=(a))ab|ac)", "ac", 0, 2, none, none) // going back behind it
	finds(t, "(?:(?=(a)|(b)).)*", "ab", 0, 2, 0, 1, 1, 2)
	finds(t, "(a)(?=(b)c|)b", "abd", 0, 2, 0, 1, none, none)
	finds(t, "(?!(a)b)a", "ac", 0, 1, none, none)
	finds(t, "(?!(b))a", "a", 0, 1, none, none)
	finds(t, "(?!(?!(a)))a", "a", 0, 1, none, none)
	finds(t, "(?:(a)|(?!(b)c)b)*", "ab", 0, 2, 0, 1, none, none)
	finds(t, "(a)(?!(b)c|(b)d)b", "abe", 0, 2, 0, 1, none, none, none, none)
	finds(t, "(?>(a)|b)*", "ab", 0, 2, 0, 1)
	finds(t, "(?>(a+))b", "aab", 0, 3, 0, 2)
	finds(t, "(?:(?>(a))b|a(c))", "ac", 0, 2, none, none, 1, 2)
	finds(t, "(?>(a)|(b))*?c", "abc", 0, 3, 0, 1, 1, 2)
	finds(t, "(?>(?:(a)|(b))*)c", "abc", 0, 3, 0, 1, 1, 2)
	finds(t, "(?:(a)|(b))*+c", "abc", 0, 3, 0, 1, 1, 2)
	finds(t, "(?:(?:(a)|(b))*+c|ab)", "abd", 0, 2, none, none, none, none)
	finds(t, "(?:(?>(a)|b)*bc|(a))", "abd", 0, 1, none, none, 0, 1)
	finds(t, `(?>(a|ab))(?=(\1|b))`, "aab", 0, 1, 0, 1, 1, 2)
	misses(t, `(?=(a|ab))\1\z`, "ab")
	misses(t, `(?=(b))*\1`, "", "a")
	finds(t, `(?=(b))*\1`, "ab", 1, 2, 1, 2)
}

// P7.2: empty rounds, up to the least number of rounds and beyond it.
func TestEmptyRounds(t *testing.T) {
	finds(t, "(?:)*", "x", 0, 0)
	finds(t, "()*", "x", 0, 0, 0, 0) // a round beyond the least number is tried, and is empty
	finds(t, "()*?", "x", 0, 0, none, none)
	finds(t, "()*+", "x", 0, 0, 0, 0)
	finds(t, "()?", "x", 0, 0, 0, 0)
	finds(t, "()??", "x", 0, 0, none, none)
	finds(t, "(){0}", "x", 0, 0, none, none)
	finds(t, "(){0,1}?x", "x", 0, 1, none, none)
	finds(t, "(){3}x", "x", 0, 1, 0, 0)
	finds(t, "(){3,}?x", "x", 0, 1, 0, 0)
	finds(t, "(a*)*", "aab", 0, 2, 2, 2) // the second round is empty
	finds(t, "(a*)+", "aab", 0, 2, 2, 2)
	finds(t, "(a*)+", "b", 0, 0, 0, 0)
	finds(t, "(a*)*", "b", 0, 0, 0, 0)
	finds(t, "(a*){2}", "aab", 0, 2, 2, 2)
	finds(t, "(a*){2,3}", "aab", 0, 2, 2, 2)
	finds(t, "(a*?)*", "aa", 0, 0, 0, 0)
	finds(t, `(a*?)*\z`, "aa", 0, 2, 2, 2)
	finds(t, "(a|b*)*", "abba", 0, 4, 4, 4)
	finds(t, "(|a)*", "aa", 0, 0, 0, 0)
	finds(t, `(|a)*\z`, "aa", 0, 2, 2, 2)
	finds(t, "(|a)+", "aa", 0, 0, 0, 0)
	finds(t, "(|a){2}", "aa", 0, 0, 0, 0)
	finds(t, `(|a){2}\z`, "aa", 0, 2, 1, 2)
	finds(t, `(|a){2}\z`, "a", 0, 1, 0, 1) // the last round gives way first
	finds(t, `(|a){3}\z`, "a", 0, 1, 0, 1)
	finds(t, `\A(|a){2}\z`, "a", 0, 1, 0, 1)
	finds(t, `(?:()|(a)){2}b`, "ab", 0, 2, 0, 0, 0, 1)
	finds(t, `(?:(|a)(|b)){2}c`, "abc", 0, 3, 0, 1, 1, 2)
	finds(t, "(?:a|())*", "aab", 0, 2, 2, 2)
	finds(t, "(?:()|a)*b", "aab", 0, 3, 2, 2)
	finds(t, "(?:()|a)*?b", "aab", 0, 3, none, none) // of an empty round, too, the group goes back
	finds(t, "(?:a|()){2}", "b", 0, 0, 0, 0)
	finds(t, "(?:(a)|()){3}b", "ab", 0, 2, 0, 1, 1, 1)
	finds(t, "(?:()|b){1,2}b", "bb", 0, 1, 0, 0)
	finds(t, `\A(?:(^)|\1b){1,2}\z`, "b", 0, 1, 0, 0) // behind an empty first round, the only one that there must be, a second one
	finds(t, `\A(?:(^)|\1b){1,2}?\z`, "b", 0, 1, 0, 0)
	finds(t, `\A(?:(^)|\1b){1,2}+`, "b", 0, 0, 0, 0)
	misses(t, `\A(?:(^)|\1b){0,2}\z`, "b") // but nothing behind an empty first round that there need not be
	misses(t, `\A(?:(^)|\1b){0,2}?\z`, "b")
	misses(t, `\A(?:(^)|\1b)*\z`, "b", "bb")
	finds(t, `\A(?:(^)|\1b)+\z`, "bb", 0, 2, 0, 0)
	misses(t, `\A(?:(^)|\1b){2,2}\z`, "bb")
	finds(t, `\A(?:(^)|\1b){3}\z`, "bb", 0, 2, 0, 0)
	finds(t, `\A(?:(^)|\1b){3}\z`, "b", 0, 1, 0, 0) // two empty ones
	finds(t, `(?:()|b){1,}?\z`, "bb", 0, 2, 0, 0)
	finds(t, `(?:()|b|c){2,3}+`, "bc", 0, 0, 0, 0)
	finds(t, `(?:^|b)*c`, "bc", 0, 2)
	finds(t, `(?:(^)|b)*c`, "bc", 0, 2, none, none)
	finds(t, `(?:(^)|b)+c`, "bc", 0, 2, 0, 0)
	finds(t, `(?:(\b)|(?=(b)))*`, "ab", 0, 0, 0, 0, none, none)
	finds(t, `(?:(?=(b))|a)*b`, "aab", 0, 3, 2, 3)
}

// P7.2: lines, the text's ends, and words.
func TestBorders(t *testing.T) {
	for _, c := range []struct {
		pattern, text string
		places        []int
	}{
		{"^", "", []int{0}}, {"^", "a", []int{0}}, {"^", "\n", []int{0, 1}}, {"^", "a\n", []int{0, 2}}, {"^", "\na", []int{0, 1}}, {"^", "a\n\nb", []int{0, 2, 3}}, {"^", "a\tb c\r", []int{0}},
		{"$", "", []int{0}}, {"$", "a", []int{1}}, {"$", "\n", []int{0, 1}}, {"$", "a\n", []int{1, 2}}, {"$", "\na", []int{0, 2}}, {"$", "a\n\nb", []int{1, 2, 4}}, {"$", "a\r", []int{2}},
		{`\A`, "", []int{0}}, {`\A`, "a\n\n", []int{0}}, {`\z`, "", []int{0}}, {`\z`, "\n", []int{1}}, {`\z`, "a\n\n", []int{3}}, {`\z`, "ab", []int{2}},
		{`\b`, "", nil}, {`\b`, "a", []int{0, 1}}, {`\b`, " ", nil}, {`\b`, "ab", []int{0, 2}}, {`\b`, " ab-c_9 ", []int{1, 3, 4, 7}}, {`\b`, "\xE9a\n", []int{1, 2}}, {`\b`, "a\nb", []int{0, 1, 2, 3}},
		{`\B`, "", []int{0}}, {`\B`, "a", nil}, {`\B`, " ", []int{0, 1}}, {`\B`, "ab", []int{1}}, {`\B`, " ab-c_9 ", []int{0, 2, 5, 6, 8}}, {`\B`, "\xE9\xE9", []int{0, 1, 2}},
		{"^$", "a\n\nb\n", []int{2, 5}}, {`^\z`, "a\n", []int{2}}, {`\A$`, "\n", []int{0}}, {`$\B`, "a\n\n", []int{2, 3}}, {`\b\b^`, "a", []int{0}},
	} {
		got, err := All(c.pattern, c.text, plenty)
		var places []int
		for _, m := range got {
			if m[0] != m[1] {
				t.Errorf("%q in %q is not empty: %v", c.pattern, c.text, m)
			}
			places = append(places, m[0])
		}
		if err != api.OK || !slices.Equal(places, c.places) {
			t.Errorf("%q in %q: %v, error %d, not %v", c.pattern, c.text, places, err, c.places)
		}
	}
	for i := range 256 {
		text := string([]byte{byte(i)})
		if strings.Contains(words, text) {
			finds(t, `\b.\b`, text, 0, 1)
			misses(t, `\B`, text)
		} else {
			finds(t, `\B[\s\S]\B`, text, 0, 1)
			misses(t, `\b`, text)
		}
	}
	finds(t, "^b$", "a\nb", 2, 3)
	finds(t, "^.*$", "ab\nc", 0, 2)
	finds(t, `\A.*$`, "ab\nc", 0, 2)
	misses(t, `\A.*\z`, "ab\nc")
	finds(t, `\A[^x]*\z`, "ab\nc", 0, 4) // a line feed is a byte like others
	finds(t, `\A\W*\z`, "\n\xFF", 0, 2)
	finds(t, "(?:.|\n)*", "a\nb", 0, 3)
}
