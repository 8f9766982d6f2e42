package regex

import (
	"cabochon/api"
	"slices"
	"strings"
	"testing"
)

// allBytes returns all bytes, or those of which something is true.
func allBytes(holds func(c byte) bool) string {
	var list []byte
	for c := range 256 {
		if holds(byte(c)) {
			list = append(list, byte(c))
		}
	}
	return string(list)
}

// but returns all bytes but these.
func but(others string) string {
	return allBytes(func(c byte) bool { return strings.IndexByte(others, c) < 0 })
}

// matches returns all bytes that a pattern matches.
func matches(t *testing.T, pattern string) string {
	t.Helper()
	return allBytes(func(c byte) bool {
		found, err := Match(pattern, string([]byte{c}), 0, plenty)
		if err == api.OK && (len(found.Groups) != 1 || found.Groups[0] != [2]int{0, 1}) || err != api.OK && err != api.ErrNone {
			t.Errorf("%q in byte %d: %v, error %d", pattern, c, found, err)
		}
		return err == api.OK
	})
}

// stands tries that a pattern matches just these bytes, ascending, in any order.
func stands(t *testing.T, pattern, bytes string) {
	t.Helper()
	want := []byte(bytes)
	slices.Sort(want)
	if got := matches(t, pattern); got != string(want) {
		t.Errorf("%q matches %q, not %q", pattern, got, want)
	}
}

const (
	digits = "0123456789"
	words  = digits + "abcdefghijklmnopqrstuvwxyzABCDEFGHIJKLMNOPQRSTUVWXYZ_"
	blanks = " \t\n"
)

// P7.1: every byte alone.
func TestBytes(t *testing.T) {
	for i := range 256 {
		c := string([]byte{byte(i)})
		switch {
		case strings.Contains(`\?*+()[]{}`, c):
			malformed(t, c, "a|"+c)
		case c == ".":
			stands(t, c, but("\n"))
		case c == "|" || c == "^":
			finds(t, c, c, 0, 0)
		case c == "$":
			finds(t, c, c, 1, 1)
		default:
			wellFormed(t, 0, c)
			stands(t, c, c)
		}
	}
}

// P7.1: every byte behind a \.
func TestEscapes(t *testing.T) {
	for i := range 256 {
		c := string([]byte{byte(i)})
		escape := `\` + c
		switch {
		case strings.Contains(`\^$.|?*+()[]{}-`, c):
			wellFormed(t, 0, escape)
			stands(t, escape, c)
			stands(t, "["+escape+"]", c)
		case c == "n":
			stands(t, escape, "\n")
			stands(t, "["+escape+"]", "\n")
		case c == "t":
			stands(t, escape, "\t")
			stands(t, "["+escape+"]", "\t")
		case strings.Contains("dDwWsS", c):
			want := map[string]string{"d": digits, "w": words, "s": blanks}[strings.ToLower(c)]
			if c < "a" {
				want = but(want)
			}
			stands(t, escape, want)
			stands(t, "["+escape+"]", want)
			stands(t, "[^"+escape+"]", but(want))
		case strings.Contains("AzbB", c):
			wellFormed(t, 0, escape)
			malformed(t, "["+escape+"]")
		case strings.Contains("123456789", c):
			malformed(t, escape, "[("+escape+"]", "()["+escape+"]")
			wellFormed(t, 9, strings.Repeat("()", 9)+escape)
		default:
			malformed(t, escape, "["+escape+"]", strings.Repeat("()", 9)+escape)
		}
	}
	malformed(t, `a\`, `\\\`, `(\`, `[\`, `[a\`, `[\]`, `[a\]`)
	finds(t, `a\-b`, "a-b", 0, 3)
	finds(t, `\(\)`, "()", 0, 2)
}

// P7.1: ] and - in classes.
func TestClasses(t *testing.T) {
	for pattern, want := range map[string]string{
		"[a]": "a", "[abc]": "abc", "[aa]": "a", "[a-c]": "abc", "[a-a]": "a", "[a-cx-z]": "abcxyz", "[a-cb-d]": "abcd", "[_a-c0]": "_abc0",
		"[]]": "]", "[]a]": "]a", "[]-]": "]-", "[]-a]": "]^_`a",
		"[-]": "-", "[--]": "-", "[---]": "-", "[-a]": "-a", "[a-]": "-a", "[-a-]": "-a", "[--/]": "-./", "[+--]": "+,-", "[a-c-]": "abc-", "[-a-c]": "-abc", "[--/-]": "-./", `[\d-]`: digits + "-", `[-\d]`: "-" + digits,
		`[\]]`: "]", `[\]-a]`: "]^_`a", `[\]-]`: "]-", `[\\]`: `\`, `[\--/]`: "-./", `[+-\-]`: "+,-", `[a\-c]`: "a-c", `[\-]`: "-", `[Z-\]]`: `Z[\]`, `[Z-\\]`: `Z[\`, `[\t-\n]`: "\t\n", `[\n-\n]`: "\n", `[\(-\)]`: "()", "[a\\-]": "a-", `[ab\-]`: "ab-",
		"[Z-[]": "Z[", "[[]": "[", "[a[b]": "a[b", "[[-^]": `[\]^`,
		"[.$|?*+(){}]": ".$|?*+(){}", "[a^]": "a^", "[\x00-\x02]": "\x00\x01\x02", "[\xFE-\xFF]": "\xFE\xFF", "[\x7F-\x80]": "\x7F\x80", "[\n]": "\n",
		`[\w-]`: words + "-", `[\d\s]`: digits + blanks, `[a\d]`: "a" + digits, `[\da-c]`: digits + "abc", `[\s\S]`: but(""), `[\d\D]`: but(""),
	} {
		wellFormed(t, 0, pattern, "[^"+pattern[1:])
		stands(t, pattern, want)
		stands(t, "[^"+pattern[1:], but(want))
	}
	stands(t, "[^^]", but("^"))
	stands(t, "[^-]", but("-"))
	stands(t, "[^a-]", but("a-"))
	stands(t, "[^\n]", but("\n"))
	stands(t, ".", but("\n"))
	stands(t, `[^\s\S]|x`, "x")
}

// P7.1: classes that are none.
func TestMalformedClasses(t *testing.T) {
	malformed(t, "[", "[^", "[]", "[^]", "[a", "[^a", "[a-", "[a-b", "[]a", "[^]a", "[-", "[--", "[a]]", "[]]]", "[]-]]", "a]", "(]", "[a(])")
	malformed(t, "[b-a]", "[z-a]", "[a-Z]", "[9-0]", "[\xFF-\xFE]", "[\x80-\x7F]", "[a--]", "[a-[]", "[a-^]", `[a-\]]`, `[a-\-]`, `[\n-\t]`, "[a-c-a]", "[]-A]")
	malformed(t, "[a-c-e]", "[a-c--]", "[a-b-c-d]", `[\d-a]`, `[\d-\d]`, `[\w--]`, `[\s-z]`, `[a\d-z]`, "[]-a-c]", "[ab-d-f]")
	malformed(t, `[a-\d]`, `[+-\D]`, `[a-\w]`, `[a-\W]`, `[\n-\s]`, `[\n-\S]`, `[--\d]`, `[]-\d]`)
	malformed(t, `[\b]`, `[a\b]`, `[^\b]`, `[\B]`, `[\A]`, `[\z]`, `[a-\b]`, `[\b-z]`, `[\e]`, `[\0]`, `(a)[\1]`, `[\ ]`, `[\a]`, `[a-\z]`, `[ -\a]`)
}

// P7.1: repeats, and what is none.
func TestRepeatForms(t *testing.T) {
	counts := []string{"{0}", "{1}", "{9}", "{10}", "{99}", "{100}", "{0,}", "{1,}", "{100,}", "{0,0}", "{0,1}", "{1,1}", "{0,100}", "{100,100}", "{9,10}", "{99,100}"}
	for _, repeat := range append(counts, "*", "+", "?") {
		for _, suffix := range []string{"", "?", "+"} {
			whole := repeat + suffix
			for _, atom := range []string{"a", ".", `\d`, `\.`, "[a-c]", "(?:a)", "(?=a)", "(?!a)", "(?>a)", "(?:)", "(?:^)", `(?:\b)`, "(?:a*)", "(?:a*?)", "-", ","} {
				wellFormed(t, 0, atom+whole)
			}
			wellFormed(t, 1, "(a)"+whole, `(a)\1`+whole, "("+`\z`+")"+whole, "()"+whole)
			for _, border := range []string{"^", "$", `\A`, `\z`, `\b`, `\B`} {
				malformed(t, border+whole, "a"+border+whole, "(?:a|"+border+whole+")")
			}
			malformed(t, whole, "|"+whole, "a|"+whole, "("+whole+")", "(?:"+whole+")", "(?="+whole+")", "(?>|"+whole+")", "(|"+whole)
			for _, more := range []string{"*", "{2}", "{1,2}", "+?", "?+", "??", "++", "*?"} {
				malformed(t, "a"+whole+more)
			}
		}
	}
	for _, c := range []string{"a*?", "a+?", "a??", "a{2}?", "a*+", "a++", "a?+", "a{2}+"} {
		malformed(t, c+"?", c+"+")
	}
	for _, repeat := range []string{
		"{101}", "{101,}", "{0,101}", "{101,101}", "{100,101}", "{1000}", "{99999999999999999999}", "{0,99999999999999999999}", "{2,1}", "{1,0}", "{100,99}", "{10,9}",
		"{00}", "{01}", "{001}", "{00,}", "{01,}", "{0,00}", "{0,01}", "{1,01}", "{00,1}", "{0100}", "{,1}", "{,}", "{}", "{,0}",
		"{", "{1", "{1,", "{1,2", "{,", "{a}", "{1a}", "{a1}", "{1,a}", "{1,2,}", "{1,2,3}", "{1,,2}", "{,,}", "{-1}", "{+1}", "{1,-2}", "{1,+2}", "{ 1}", "{1 }", "{1, 2}", "{1 ,2}", "{0x1}", "{1_0}", "{1.0}", "{{1}}", "{1}}", "{(1)}", `{\1}`,
	} {
		malformed(t, "a"+repeat, "a"+repeat+"?", "("+"a"+repeat+")", repeat)
	}
	malformed(t, "}", "a}", "a{1}}", "{", "a{", "({", "[a]{", "]", "a{1|2}", "a{1,(2)}", "a}{1}")
}

// P7.1: brackets.
func TestGroupForms(t *testing.T) {
	malformed(t, "(", ")", "a)", "(a", "())", "(()", "(?:", "(?:a", "(?=", "(?!a", "(?>", ")(", "(a))(b", "(a|", "|(", "a|)", "(\\)", "([)]", "([])")
	malformed(t, "(?)", "(?", "(?a)", "(?<a)", "(?<=a)", "(?<!a)", "(?P<a>b)", "(?<a>b)", "(?i)", "(?i:a)", "(?#)", "(?-:a)", "(??:a)", "(?|a)", "(?::)(", "(? :a)", "(?^:a)", "(*a)", "(+)", "(?+)", "(?*)", "(??)")
	wellFormed(t, 0, "(?:)", "(?=)", "(?!)", "(?>)", "(?::)", "(?==)", "(?:(?:))", "(?:|)", "(?:a|b|)", "a|b", "|", "||", "", `\(\)`, "[()]", "[(]", "(?:[)])")
	wellFormed(t, 1, "()", "(a)", "(:)", "(=)", "(|)", `(\?)`, "(?:())", "(?=())", "(?!())", "(?>())", "([(])", `(\()`, "(?:a|(b))", "(a){0}", "(?:(a)|b)*")
	wellFormed(t, 2, "(a)(?:b)(c)", "(())", "()()", "()|()", "(?=())(?!())", "((a)|b)")
	wellFormed(t, 3, "(a(b)c(?:d)(e))", "((()))")
}

// P7.1: groups are numbered from 1 to 9, and by their opening brackets.
func TestManyGroups(t *testing.T) {
	wellFormed(t, 8, strings.Repeat("(a)", 8))
	wellFormed(t, 9, strings.Repeat("(a)", 9), strings.Repeat("(", 9)+strings.Repeat(")", 9), strings.Repeat("(?:b)", 20)+strings.Repeat("()", 9), "(?:()|()|()|()|()|()|()|()|())")
	malformed(t, strings.Repeat("(a)", 10), strings.Repeat("(", 10)+strings.Repeat(")", 10), strings.Repeat("()", 11), strings.Repeat("()|", 9)+"()", strings.Repeat("()", 9)+"(?=())", strings.Repeat("(a){0}", 10))
	finds(t, "(((a)b)(c))(d(e))(f)", "abcdef", 0, 6, 0, 3, 0, 2, 0, 1, 2, 3, 3, 5, 4, 5, 5, 6)
	finds(t, "(a)(b)(c)(d)(e)(f)(g)(h)(i)", "abcdefghi", 0, 9, 0, 1, 1, 2, 2, 3, 3, 4, 4, 5, 5, 6, 6, 7, 7, 8, 8, 9)
	finds(t, `(a)(b)(c)(d)(e)(f)(g)(h)(i)\9\1`, "abcdefghiia", 0, 11, 0, 1, 1, 2, 2, 3, 3, 4, 4, 5, 5, 6, 6, 7, 7, 8, 8, 9)
	finds(t, "(?:(?=(a)).)(?>(b))", "ab", 0, 2, 0, 1, 1, 2)
}

// P7.1: at most 10 groups of every kind within each other.
func TestGroupsWithinEachOther(t *testing.T) {
	within := func(open string, n int) string { return strings.Repeat(open, n) + "a" + strings.Repeat(")", n) }
	for _, open := range []string{"(?:", "(?=", "(?!", "(?>"} {
		wellFormed(t, 0, within(open, 9), within(open, 10), within(open, 10)+within(open, 10), within(open, 10)+"|"+within(open, 10))
		malformed(t, within(open, 11), within(open, 12), within(open, 10)+within(open, 11), "a|"+within(open, 11))
		wellFormed(t, 1, strings.Replace(within(open, 10), open, "(", 1), strings.Replace(within(open, 9), "a", "(a)", 1))
		malformed(t, strings.Replace(within(open, 10), "a", "(a)", 1), "("+within(open, 10)+")", "(?:"+within(open, 10)+")", "(?="+within(open, 10)+")", "(?!"+within(open, 10)+")", "(?>"+within(open, 10)+")")
	}
	wellFormed(t, 9, within("(", 9), "(?:"+within("(", 9)+")")
	malformed(t, within("(", 10), "(?:(?:"+within("(", 9)+"))")
	wellFormed(t, 2, "(?:(?=(?!(?>((?:(?=(?!(?>(a))))))))))")
	malformed(t, "(?:(?=(?!(?>((?:(?=(?!(?>(a(?:)))))))))))")
	finds(t, within("(?:", 10), "a", 0, 1)
	finds(t, within("(?>", 10), "ba", 1, 2)
	finds(t, within("(?=", 10), "ba", 1, 1)
	finds(t, within("(?!", 10), "ba", 1, 1)
	finds(t, within("(?!", 9), "ab", 1, 1)
	finds(t, strings.Repeat("(?:", 10)+"a"+strings.Repeat(")*", 10), "aab", 0, 2)
	finds(t, "(?:"+within("(", 9)+")", "a", 0, 1, 0, 1, 0, 1, 0, 1, 0, 1, 0, 1, 0, 1, 0, 1, 0, 1, 0, 1)
}

// P7.1: back references to groups that are there, and that are not.
func TestBackReferenceForms(t *testing.T) {
	malformed(t, `\1`, `\9`, `()\2`, `(?:a)\1`, `(?=a)\1`, `\1(?>a)`, `\2(a)`, `(\2)`, `a|\1`, `[(]\1`, `\(\)\1`, `(a)\0`, `()\3()`, `\4((()))`)
	wellFormed(t, 1, `(a)\1`, `\1(a)`, `(\1)`, `(a\1)`, `(a)|\1`, `\1|(a)`, `(?=(a))\1`, `(?!(a))\1`, `(a){0}\1`, `(?:\1(a))*`, `(a)\1*`, `(a)\1{2}?`, `(a)(?:\1)`, `(a)\10`, `(a)\1\1`)
	wellFormed(t, 2, `()\2()`, `\2\1()()`, `((\1)\2)`)
	wellFormed(t, 9, strings.Repeat("()", 9)+`\9`, `\9`+strings.Repeat("()", 9))
	finds(t, `(a)\10`, "aa0", 0, 3, 0, 1) // a back reference, and a 0
}

// P7.1: patterns of 0 to 301 bytes.
func TestPatternSizes(t *testing.T) {
	text := strings.Repeat("a", 400)
	for _, n := range []int{0, 1, 2, 298, 299, 300} {
		finds(t, text[:n], text, 0, n)
		wellFormed(t, 0, text[:n], strings.Repeat("|", n), strings.Repeat("\xFF", n))
	}
	for _, n := range []int{301, 302, 400, 5000, 100000} {
		malformed(t, strings.Repeat("a", n), strings.Repeat("|", n), strings.Repeat("(", n), strings.Repeat(`\`, n))
	}
	wellFormed(t, 0, strings.Repeat("\u00E9", 150), strings.Repeat(`\.`, 150), "["+strings.Repeat("a", 298)+"]")
	malformed(t, strings.Repeat("\u00E9", 150)+"a", "["+strings.Repeat("a", 299)+"]", strings.Repeat(`\.`, 150)+"a")
	wellFormed(t, 0, strings.Repeat("a{100}", 50), strings.Repeat("a*+", 100), strings.Repeat("(?:|a)", 50), strings.Repeat("[^a]", 75))
}
