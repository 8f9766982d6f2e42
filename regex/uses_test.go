package regex

import (
	"cabochon/api"
	"math/rand"
	"slices"
	"strings"
	"testing"
)

// uses tries All, Replace by <> and Split.
func uses(t *testing.T, pattern, text string, all [][2]int, replaced string, parts ...string) {
	t.Helper()
	if got, err := All(pattern, text, plenty); err != api.OK || !slices.Equal(got, all) {
		t.Errorf("All of %q in %q: %v, error %d, not %v", pattern, text, got, err, all)
	}
	replaces(t, pattern, text, "<>", replaced)
	if got, err := Split(pattern, text, plenty); err != api.OK || !slices.Equal(got, parts) {
		t.Errorf("Split of %q in %q: %q, error %d, not %q", pattern, text, got, err, parts)
	}
}

func replaces(t *testing.T, pattern, text, by, want string) {
	t.Helper()
	if got, err := Replace(pattern, text, by, plenty); err != api.OK || got != want {
		t.Errorf("Replace of %q in %q by %q: %q, error %d, not %q", pattern, text, by, got, err, want)
	}
}

// P7.2, P7.3: matches that are empty, at both ends, and side by side.
func TestAllReplaceSplit(t *testing.T) {
	uses(t, ",", "a,,b", pairs(1, 2, 2, 3), "a<><>b", "a", "", "b")
	uses(t, ",", "", nil, "", "")
	uses(t, ",", "abc", nil, "abc", "abc")
	uses(t, ",", ",", pairs(0, 1), "<>", "", "")
	uses(t, ",", ",a,", pairs(0, 1, 2, 3), "<>a<>", "", "a", "")
	uses(t, ",", ",,", pairs(0, 1, 1, 2), "<><>", "", "", "")
	uses(t, ",+", "a,,b,", pairs(1, 3, 4, 5), "a<>b<>", "a", "b", "")
	uses(t, "abc", "abc", pairs(0, 3), "<>", "", "")
	uses(t, "aa", "aaaaa", pairs(0, 2, 2, 4), "<><>a", "", "", "a") // not within each other
	uses(t, "aba", "ababa", pairs(0, 3), "<>ba", "", "ba")
	uses(t, "", "", pairs(0, 0), "<>", "")
	uses(t, "", "a", pairs(0, 0, 1, 1), "<>a<>", "a")
	uses(t, "", "ab", pairs(0, 0, 1, 1, 2, 2), "<>a<>b<>", "a", "b")
	uses(t, "", "abc", pairs(0, 0, 1, 1, 2, 2, 3, 3), "<>a<>b<>c<>", "a", "b", "c")
	uses(t, "a*", "", pairs(0, 0), "<>", "")
	uses(t, "a*", "baa", pairs(0, 0, 1, 3, 3, 3), "<>b<><>", "b", "")
	uses(t, "a*", "aab", pairs(0, 2, 2, 2, 3, 3), "<><>b<>", "", "b") // an empty match where the last one ended
	uses(t, "a*", "baac", pairs(0, 0, 1, 3, 3, 3, 4, 4), "<>b<><>c<>", "b", "c")
	uses(t, "a*", "baabb", pairs(0, 0, 1, 3, 3, 3, 4, 4, 5, 5), "<>b<><>b<>b<>", "b", "b", "b")
	uses(t, "a*", "aa", pairs(0, 2, 2, 2), "<><>", "", "")
	uses(t, "a*?", "aa", pairs(0, 0, 1, 1, 2, 2), "<>a<>a<>", "a", "a")
	uses(t, "|a", "aa", pairs(0, 0, 1, 1, 2, 2), "<>a<>a<>", "a", "a")
	uses(t, "a|", "aab", pairs(0, 1, 1, 2, 2, 2, 3, 3), "<><><>b<>", "", "", "b")
	uses(t, "^", "a\nb", pairs(0, 0, 2, 2), "<>a\n<>b", "a\n", "b")
	uses(t, "^", "a\n", pairs(0, 0, 2, 2), "<>a\n<>", "a\n")
	uses(t, "$", "a\nb", pairs(1, 1, 3, 3), "a<>\nb<>", "a", "\nb")
	uses(t, `\A`, "aa", pairs(0, 0), "<>aa", "aa")
	uses(t, `\Aa`, "aa", pairs(0, 1), "<>a", "", "a")
	uses(t, "^a", "aa\na", pairs(0, 1, 3, 4), "<>a\n<>", "", "a\n", "")
	uses(t, `\z`, "aa", pairs(2, 2), "aa<>", "aa")
	uses(t, `\b`, "ab cd", pairs(0, 0, 2, 2, 3, 3, 5, 5), "<>ab<> <>cd<>", "ab", " ", "cd")
	uses(t, `\b`, "-a-", pairs(1, 1, 2, 2), "-<>a<>-", "-", "a", "-")
	uses(t, "(?=b)", "abab", pairs(1, 1, 3, 3), "a<>ba<>b", "a", "ba", "b")
	uses(t, "(?=b)|b", "abab", pairs(1, 1, 3, 3), "a<>ba<>b", "a", "ba", "b") // a match at 1 is empty: the next one is from 2 on
	uses(t, "b|(?=a)", "abab", pairs(0, 0, 1, 2, 2, 2, 3, 4), "<>a<><>a<>", "a", "a", "")
	uses(t, "(?!)", "ab", nil, "ab", "ab")
	uses(t, `\s*,\s*`, "a , b,c ,d", pairs(1, 4, 5, 6, 7, 9), "a<>b<>c<>d", "a", "b", "c", "d")
	uses(t, "\n", "a\nb\n", pairs(1, 2, 3, 4), "a<>b<>", "a", "b", "")
	uses(t, `(a)\1`, "aaaaa", pairs(0, 2, 2, 4), "<><>a", "", "", "a")
	uses(t, "(a)|b", "ab-b", pairs(0, 1, 1, 2, 3, 4), "<><>-<>", "", "", "-", "")
}

// P7.3: the last text of Replace.
func TestReplaceBy(t *testing.T) {
	replaces(t, "(a)(b)?", "abac", `<\2\1>`, "<ba><a>c")
	replaces(t, "a", "banana", "", "bnn")
	replaces(t, "a", "banana", "aa", "baanaanaa")
	replaces(t, "a", "b", `\0\0`, "b")
	replaces(t, "[an]+", "banana", `(\0)`, "b(anana)")
	replaces(t, "(.)(.)", "abcde", `\2\1`, "badce")
	nine := "(a)(b)(c)(d)(e)(f)(g)(h)(i)"
	for i, want := range []string{"abcdefghi", "a", "b", "c", "d", "e", "f", "g", "h", "i"} {
		replaces(t, nine, "-abcdefghi-", `\`+string(rune('0'+i)), "-"+want+"-")
	}
	replaces(t, nine, "abcdefghi", `\10\19`, "a0a9")
	replaces(t, "a", "a", `<\1\2\3\4\5\6\7\8\9>`, "<>") // groups that are not there
	replaces(t, "(a)|b", "ab", `<\1>`, "<a><>")
	replaces(t, "(a)?b", "bab", `<\1>`, "<><a>") // of each match anew
	replaces(t, "(a)?b", "abb", `<\1>`, "<a><>")
	replaces(t, "()a", "a", `<\1>`, "<>")
	replaces(t, "(?=(b))a?", "ab", `<\1>`, "a<b>b")
	replaces(t, "a(?=(b))", "ab", `<\1>`, "<b>b")
	replaces(t, "(?:(a)|(b))*", "abab", `\1\2\0`, "ababab")
	replaces(t, "a", "a", `\\`, `\`)
	replaces(t, "a", "a", `\\\\`, `\\`)
	replaces(t, "a", "a", `\\0`, `\0`)
	replaces(t, "a", "a", `\\\0`, `\a`)
	replaces(t, "a", "a", `\`, `\`)
	replaces(t, "a", "a", `x\`, `x\`)
	replaces(t, "a", "a", `\\\`, `\\`)
	replaces(t, "a", "aa", `\`, `\\`)
	replaces(t, "a", "a", "\\\n\\n\\t\\x\\-\\&\\a", "\\\n\\n\\t\\x\\-\\&\\a")
	replaces(t, "a", "ba", "$0 $1 & %s {0} [0] 0 \n", "b$0 $1 & %s {0} [0] 0 \n")
	replaces(t, "(.)", "\xFF\\", `\1\1`, "\xFF\xFF\\\\")
	replaces(t, `\\`, `a\b`, `\\\\`, `a\\b`)
	for c := range 256 {
		by := string([]byte{'\\', byte(c)})
		want := by
		switch {
		case c == '0' || c == '1':
			want = "a"
		case c >= '2' && c <= '9':
			want = ""
		case c == '\\':
			want = `\`
		}
		replaces(t, "(a)", "-a-", by, "-"+want+"-")
		if c != '\\' && (c < '0' || c > '9') {
			replaces(t, "(a)", "-a-", by[1:], "-"+by[1:]+"-")
		}
	}
	replaces(t, "a", "ba", strings.Repeat("x", 10000), "b"+strings.Repeat("x", 10000)) // it is not matched, and may be longer than texts
	replaces(t, "a*", strings.Repeat("b", 5000), "x", strings.Repeat("xb", 5000)+"x")
}

// whole tries whether a pattern is there as a whole.
func whole(t *testing.T, pattern, text string, want bool) {
	t.Helper()
	if got, err := Whole(pattern, text, plenty); err != api.OK || got != want {
		t.Errorf("Whole of %q in %q: %t, error %d, not %t", pattern, text, got, err, want)
	}
}

// P7.3
func TestWhole(t *testing.T) {
	whole(t, "a|ab", "ab", true)
	whole(t, "a|ab", "a", true)
	whole(t, "a|ab", "abc", false)
	whole(t, "ab|a|b", "ba", false)
	whole(t, "b|a", "ab", false) // neither at the front alone, nor at the end
	whole(t, "a", "ba", false)
	whole(t, "a*", "", true)
	whole(t, "a*", "aaa", true)
	whole(t, "a*?", "aaa", true)
	whole(t, "a*+", "aaa", true)
	whole(t, "(?>a|ab)", "ab", false)
	whole(t, "a??", "a", true)
	whole(t, "", "", true)
	whole(t, "", "a", false)
	whole(t, "|", "a", false)
	whole(t, "|a", "a", true)
	whole(t, "(?!)", "", false)
	whole(t, "(?!|a)", "a", false)
	whole(t, "a$", "a\n", false)
	whole(t, "^a\n^", "a\n", true)
	whole(t, ".*", "a\nb", false)
	whole(t, `(a+)\1`, "aaaa", true)
	whole(t, `(a+)\1`, "aaa", false)
	whole(t, `a\z`, "a", true)
	whole(t, "a(?=b)", "ab", false)
	whole(t, "a(?=b)b", "ab", true)
	whole(t, strings.Repeat("a", 300), strings.Repeat("a", 300), true)
	whole(t, strings.Repeat("a", 300), strings.Repeat("a", 301), false)
	whole(t, strings.Repeat("a", 149)+"|"+strings.Repeat("b", 150), strings.Repeat("b", 150), true)
	whole(t, strings.Repeat("(?:", 10)+"a|ab"+strings.Repeat(")", 10), "ab", true)
	whole(t, "("+strings.Repeat("(?:", 9)+"a|ab"+strings.Repeat(")", 9)+")", "ac", false)
	whole(t, "(a)(b)(c)(d)(e)(f)(g)(h)(i)", "abcdefghi", true)
	whole(t, strings.Repeat("(?:", 5)+strings.Repeat("(a|", 5)+"b"+strings.Repeat("))", 5), "b", true)
	whole(t, "a*", strings.Repeat("a", 5000), true)
	malformed(t, strings.Repeat("a", 301), strings.Repeat("(?:", 11)+strings.Repeat(")", 11), "a)|(b", "a)(?:b", `a\`)
}

// P7.3: the steps of Whole are those of the pattern with a \z behind it, at 0 alone.
func TestStepsOfWhole(t *testing.T) {
	for _, c := range []struct {
		pattern, text string
		steps         int
		want          bool
	}{{"", "", 1, true}, {"", "a", 1, false}, {"a", "a", 2, true}, {"a", "bbbbbba", 1, false}, {"a|ab", "ab", 5, true}, {"ab|a", "ac", 4, false}, {"a*?", "aa", 5, true}, {"(?!)", "a", 0, false}, {"a|b", "ba", 3, false}} {
		for budget := range c.steps + 3 {
			got, err := Whole(c.pattern, c.text, budget)
			if budget < c.steps && (got || err != api.ErrBudget) || budget >= c.steps && (got != c.want || err != api.OK) {
				t.Errorf("%q in %q with %d: %t, error %d", c.pattern, c.text, budget, got, err)
			}
		}
	}
}

// P7.3: every byte.
func TestEscape(t *testing.T) {
	for i := range 256 {
		c := string([]byte{byte(i)})
		want := c
		switch {
		case c == "\n":
			want = `\n`
		case c == "\t":
			want = `\t`
		case strings.Contains(`\^$.|?*+()[]{}`, c):
			want = `\` + c
		}
		for text, want := range map[string]string{c: want, c + c: want + want, "a" + c + "b": "a" + want + "b"} {
			if got := Escape(text); got != want {
				t.Errorf("Escape(%q): %q, not %q", text, got, want)
			}
		}
		whole(t, Escape(c), c, true)
		stands(t, Escape(c), c)
	}
	for text, want := range map[string]string{
		"": "", "a.b\n": `a\.b\n`, "a-b": "a-b", `\`: `\\`, `\n`: `\\n`, "\r\v\f\x00": "\r\v\f\x00", "\u00E9\xFF": "\u00E9\xFF", "(?:a)": `\(\?:a\)`, "[^a-z]{1,2}": `\[\^a-z\]\{1,2\}`,
	} {
		if got := Escape(text); got != want {
			t.Errorf("Escape(%q): %q, not %q", text, got, want)
		}
	}
	long := strings.Repeat(".", 100000)
	if got := Escape(long); got != strings.Repeat(`\.`, 100000) {
		t.Errorf("Escape of 100000 bytes: %d bytes", len(got))
	}
}

// P7.4: a match of an Escape is the text itself, where it stands first.
func TestMatchOfEscape(t *testing.T) {
	r := rand.New(rand.NewSource(4))
	some := "aab.*\\n\n\t[]{}()-^$|?+\xFF"
	for range 3000 {
		part, text := "", ""
		for range r.Intn(4) {
			part += string(some[r.Intn(len(some))])
		}
		for range r.Intn(60) {
			text += string(some[r.Intn(len(some))])
		}
		if r.Intn(3) == 0 {
			text += part + text
		}
		found, err := Match(Escape(part), text, 0, plenty)
		at := strings.Index(text, part)
		if at < 0 && err != api.ErrNone || at >= 0 && (err != api.OK || !slices.Equal(found.Groups, pairs(at, at+len(part)))) {
			t.Errorf("%q in %q: %v, error %d, not at %d", part, text, found, err, at)
		}
	}
}

// P7.4: random patterns: Replace by \0, the parts of Split, and what All, Replace, Split and Whole say of what the second reading finds.
func TestConsequences(t *testing.T) {
	p := &patterns{Rand: rand.New(rand.NewSource(77))}
	for range 20000 {
		p.groups = 0
		pattern, text := p.alternatives(3), p.text()
		list, ok := toldAll(pattern, text)
		if !ok {
			continue
		}
		all, err := All(pattern, text, plenty)
		if err != api.OK || !slices.Equal(all, wholes(list)) {
			t.Fatalf("All of %q in %q: %v, error %d, not %v", pattern, text, all, err, wholes(list))
		}
		replaces(t, pattern, text, `\0`, text)
		replaces(t, pattern, text, `<\2\1\\`, replacedBy(text, list))
		cut := cuts(all, len(text))
		parts, err := Split(pattern, text, plenty)
		if err != api.OK || len(parts) != len(cut)+1 {
			t.Fatalf("Split of %q in %q: %q, error %d, not %d parts", pattern, text, parts, err, len(cut)+1)
		}
		joined := parts[0]
		for i, m := range cut {
			joined += text[m[0]:m[1]] + parts[i+1]
		}
		if joined != text {
			t.Fatalf("Split of %q in %q: %q", pattern, text, parts)
		}
		want, ok := told("(?:"+pattern+`)\z`, text, 0, 0, plenty)
		if got, err := Whole(pattern, text, plenty); ok && want.err != api.ErrForm && (err != api.OK || got != (want.err == api.OK)) {
			t.Fatalf("Whole of %q in %q: %t, error %d", pattern, text, got, err)
		}
	}
}

// toldAll returns what the second reading says of all matches.
func toldAll(pattern, text string) ([]outcome, bool) {
	var list []outcome
	for from := 0; from <= len(text); {
		o, ok := told(pattern, text, from, len(text), plenty)
		if !ok || o.err == api.ErrForm {
			return nil, false
		}
		if o.err == api.ErrNone {
			break
		}
		list = append(list, o)
		from = o.groups[0][1]
		if from == o.groups[0][0] {
			from++
		}
	}
	return list, true
}

func wholes(list []outcome) [][2]int {
	var all [][2]int
	for _, o := range list {
		all = append(all, o.groups[0])
	}
	return all
}

// replacedBy returns a text whose matches are replaced by a <, the group 2, the group 1, and a \.
func replacedBy(text string, list []outcome) string {
	result, end := "", 0
	for _, o := range list {
		result += text[end:o.groups[0][0]] + "<"
		for _, g := range []int{2, 1} {
			if g < len(o.groups) && o.groups[g][0] >= 0 {
				result += text[o.groups[g][0]:o.groups[g][1]]
			}
		}
		result += `\`
		end = o.groups[0][1]
	}
	return result + text[end:]
}

// cuts returns the matches at which Split cuts.
func cuts(all [][2]int, end int) [][2]int {
	var list [][2]int
	last := 0
	for _, m := range all {
		if m[0] < m[1] || m[0] != 0 && m[0] != end && m[0] != last {
			list = append(list, m)
		}
		last = m[1]
	}
	return list
}
