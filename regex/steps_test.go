package regex

import (
	"cabochon/api"
	"math"
	"slices"
	"strings"
	"testing"
)

// takes tries that a match is found, or that none is, in just so many steps.
func takes(t *testing.T, pattern, text string, steps int, want api.Errno) {
	t.Helper()
	for _, budget := range []int{0, steps / 2, steps - 1, steps, steps + 1, plenty} {
		if budget < 0 {
			continue
		}
		wanted, count := want, 0
		if budget < steps {
			wanted = api.ErrBudget
		}
		if wanted == api.OK {
			count = steps
		}
		found, err := Match(pattern, text, 0, budget)
		if err != wanted || found.Steps != count || (found.Groups == nil) != (err != api.OK) {
			t.Errorf("%q in %d bytes with %d: %v, error %d, not %d and error %d", pattern, len(text), budget, found, err, count, wanted)
		}
	}
}

// P7.2: what takes a step.
func TestStepsOfAtoms(t *testing.T) {
	for pattern, steps := range map[string]int{
		"a": 1, "ab": 2, ".": 1, `\w`: 1, `\D`: 1, "[a-c]": 1, "[^b]": 1, `[\d\w]`: 1, "^": 1, `\A`: 1, `\b`: 1, `^\A\ba`: 4, `\Aabc$\z\b`: 7,
		"": 0, "()": 0, "(?:)": 0, "(?=)": 0, "(?>)": 0, "(|a)": 0, "a{0}": 0, "a*?": 0, "a??": 0, "(?:)*": 0, "(){100}": 0, "(?!b{0}(?!))": 0, "(?!(?=(?!)))": 0,
		"(a)": 1, "(?:a)": 1, "(?>a)": 1, "(?=a)": 1, "(?!b)": 1, "((?:(?>(?=(a)))))": 1, "(?=a)a": 2, "(?!b)a": 2, "(?!(?!a))a": 2,
		`(a)\1?`: 2, `(ab)\1?`: 3, `(a)(?:\1|b)`: 3, `()\1`: 1, `(?:\1|a)()`: 2, `(abc)?\1?`: 4,
		"a*": 2, "a*b": 3, "a?": 1, "a?b": 2, "a+": 2, "a+?": 1, "a{1}": 1, "a{1,2}": 2, "(?:abc)*": 4, "[abc]*": 4, "[abc]{3}": 3, "[abc]{2,}?": 2, "[abc]*+": 4, "[abc]*?c": 5,
		"b|a": 2, "b|c|a": 3, "(?:b|c|a)(?:a|b)": 5, "|a": 0, "b|": 1, "ac|ab": 4, "a(?:c|b)": 3, "a(?:|b)c": 4,
		"a*a": 4, "[abc]*c": 6, "[abc]*b": 7, "(?>ab|a)c": 3, "(?:ab|a)c": 3, "(?:a|ab)(?:c|bcd)": 8, "(?=[abc]*)a": 5,
	} {
		takes(t, pattern, "abc", steps, api.OK)
	}
	takes(t, "(a|ab)(c|bcd)(d*)", "abcd", 6, api.OK)
	takes(t, "ab", "xab", 3, api.OK)
}

// P7.2: the starting places count together, the end of the text, too.
func TestStepsOfPlaces(t *testing.T) {
	takes(t, "a", "", 1, api.ErrNone)
	takes(t, "a", "bbb", 4, api.ErrNone)
	takes(t, "a", "bbba", 4, api.OK)
	takes(t, "", "bbb", 0, api.OK)
	takes(t, "(?!)", "bbb", 0, api.ErrNone)
	takes(t, "(?!|a)b", "bbb", 0, api.ErrNone)
	takes(t, "a(?!)", "aab", 4, api.ErrNone)
	takes(t, "(?!)a", "aab", 0, api.ErrNone)
	takes(t, `\z`, "bbb", 4, api.OK)
	takes(t, `\A\z`, "bbb", 5, api.ErrNone)
	takes(t, "^b", "a\nb", 5, api.OK)
	takes(t, "a*b", "aaa", 20, api.ErrNone) // from 0 on four times a and four times b, and so on
	takes(t, "a*+b", "aaa", 14, api.ErrNone)
	takes(t, "a*", "baa", 1, api.OK)
	takes(t, "a+", "baa", 4, api.OK)
	takes(t, "(?:a|b)c", "abab", 14, api.ErrNone)
	takes(t, `(a)\1`, "aba", 6, api.ErrNone)
	takes(t, `(?=.)a|\z`, "bb", 8, api.OK)
	takes(t, "(?:a*)*b", "c", 6, api.ErrNone)
	for _, c := range []struct{ from, steps int }{{0, 5}, {1, 4}, {3, 2}, {4, 1}} {
		for budget := range 7 {
			found, err := Match("a", "bbbba", c.from, budget)
			want := api.OK
			if budget < c.steps {
				want = api.ErrBudget
			}
			if err != want || err == api.OK && found.Steps != c.steps {
				t.Errorf("from %d with %d: %v, error %d", c.from, budget, found, err)
			}
		}
	}
}

// P7.2: patterns that go back a lot.
func TestStepsOfGoingBack(t *testing.T) {
	takes(t, "(a*)*b", "", 3, api.ErrNone)
	if _, err := Match("(a*)*b", strings.Repeat("a", 24), 0, 100); err != api.ErrBudget {
		t.Errorf("error %d", err)
	}
	if _, err := Match("(a*)*b", strings.Repeat("a", 24), 0, plenty); err != api.ErrBudget {
		t.Errorf("error %d", err)
	}
	if found, err := Match("(a*)*b", strings.Repeat("a", 24)+"b", 0, 100); err != api.OK || found.Steps != 27 {
		t.Errorf("%v, error %d", found, err)
	}
	text := strings.Repeat("a", 5000)
	takes(t, "a*", text, 5001, api.OK)
	takes(t, "(a)*", text, 5001, api.OK)
	takes(t, "(?:a|b)*c?", text, 5003, api.OK)
	takes(t, `.*\A`, "abc", 8, api.OK)
	if found, err := Match("(?:(?:(?:^){100}){100}){100}", text, 0, plenty); err != api.OK || found.Steps != 1000000 {
		t.Errorf("%v, error %d", found, err)
	}
	if _, err := Match("(?:(?:(?:^){100}){100}){100}^", text, 0, plenty); err != api.ErrBudget {
		t.Errorf("a step more than 1000000: error %d", err)
	}
}

// P7.2: the budget is for all matches together.
func TestBudgetOfAll(t *testing.T) {
	for _, c := range []struct {
		pattern, text string
		steps         int
	}{
		{"a", "", 1}, {"a", "aaa", 4}, {"a", "bab", 4}, {"", "aaa", 0}, {"a*", "baa", 5}, {"a*", "bbb", 4}, {"a+", "aab", 5}, {"ab|b", "abb", 6}, {`\b`, "ab c", 5}, {"(a)*?b", "aab", 7}, {"(?=a)", "aa", 3}, {"^", "a\n", 3}, {`\z`, "aa", 3},
	} {
		for budget := range c.steps + 3 {
			want := api.OK
			if budget < c.steps {
				want = api.ErrBudget
			}
			for what, err := range triesAll(t, c.pattern, c.text, 0, budget) {
				if (what == "All" || what == "Replace" || what == "Split") && err != want {
					t.Errorf("%s of %q in %q with %d: error %d, not %d", what, c.pattern, c.text, budget, err, want)
				}
			}
		}
	}
}

// P7.1: texts, places and budgets at their ends.
func TestArguments(t *testing.T) {
	for _, n := range []int{0, 1, 4999, 5000, 5001, 5002, 100000} {
		text := strings.Repeat("a", n)
		want := api.OK
		if n > 5000 {
			want = api.ErrArg
		}
		for what, err := range triesAll(t, "a*", text, 0, plenty) {
			if what != "Check" && what != "Groups" && err != want {
				t.Errorf("%s of %d bytes: error %d", what, n, err)
			}
		}
		for _, from := range []int{-1, 0, 1, n - 1, n, n + 1, n + 2, math.MinInt, math.MaxInt, -n} {
			want := api.OK
			if n > 5000 || from < 0 || from > n {
				want = api.ErrArg
			}
			if found, err := Match("", text, from, 0); err != want || err == api.OK && !slices.Equal(found.Groups, pairs(from, from)) {
				t.Errorf("from %d of %d: %v, error %d", from, n, found, err)
			}
		}
	}
	for _, budget := range []int{math.MinInt, -1000000, -1, 0, 1, 999999, 1000000, 1000001, math.MaxInt} {
		want := api.OK
		if budget < 0 || budget > 1000000 {
			want = api.ErrArg
		}
		for what, err := range triesAll(t, "", "a", 0, budget) {
			if what != "Check" && what != "Groups" && !(what == "Whole" && budget == 0) && err != want {
				t.Errorf("%s with %d: error %d", what, budget, err)
			}
		}
	}
	if ok, err := Whole("", "a", 0); ok || err != api.ErrBudget { // of its \z
		t.Errorf("Whole with 0: %t, error %d", ok, err)
	}
}

// P7.1: several errors at once.
func TestOrderOfErrors(t *testing.T) {
	long := strings.Repeat("b", 5001)
	for _, pattern := range []string{"a", "(", "(?!)", strings.Repeat("a", 301), `a\`} {
		for _, text := range []string{"", "b", long} {
			for _, from := range []int{math.MinInt, -1, 0, len(text), len(text) + 1, math.MaxInt} {
				for _, budget := range []int{math.MinInt, -1, 0, 1, 2, 1000000, 1000001, math.MaxInt} {
					isForm := pattern == "a" || pattern == "(?!)"
					steps := 0
					if pattern == "a" {
						steps = len(text) - from + 1
					}
					var want api.Errno
					switch {
					case !isForm:
						want = api.ErrForm
					case len(text) > 5000 || from < 0 || from > len(text) || budget < 0 || budget > 1000000:
						want = api.ErrArg
					case steps > budget:
						want = api.ErrBudget
					default:
						want = api.ErrNone
					}
					if found, err := Match(pattern, text, from, budget); err != want || found.Groups != nil || found.Steps != 0 {
						t.Errorf("%q in %d bytes from %d with %d: %v, error %d, not %d", pattern, len(text), from, budget, found, err, want)
					}
				}
			}
		}
	}
	for _, budget := range []int{-1, 0, 1000001} {
		for what, err := range triesAll(t, "(", long, 0, budget) {
			if err != api.ErrForm {
				t.Errorf("%s: error %d, not ErrForm", what, err)
			}
		}
		for what, err := range triesAll(t, "a", long, 0, budget) {
			if what != "Check" && what != "Groups" && err != api.ErrArg {
				t.Errorf("%s: error %d, not ErrArg", what, err)
			}
		}
	}
}

// R1: rounds within rounds, and alternatives, that take no step are not gone through one by one: of each of these patterns there are 2^50 and more.
func TestManyEmptyWays(t *testing.T) {
	nested := func(inside, repeat string) string {
		return strings.Repeat("(?:", 8) + inside + strings.Repeat(")"+repeat, 8)
	}
	takes(t, nested("", "{100}"), "a", 0, api.OK)
	takes(t, nested("|b", "{100}"), "a", 0, api.OK)
	takes(t, nested("|b", "{99,}"), "a", 0, api.OK)
	takes(t, nested("|b", "{99,}+"), "a", 0, api.OK)
	takes(t, nested("|b", "{99,100}?"), "a", 0, api.OK)
	takes(t, nested("b??", "{100}"), "a", 0, api.OK)
	takes(t, nested("b{0}", "{100}"), "a", 0, api.OK)
	takes(t, nested("", "{100}")+"a", "a", 1, api.OK)
	takes(t, nested("", "{100}")+"b", "a", 2, api.ErrNone)
	takes(t, nested("", "{100}")+"(?!)", "a", 0, api.ErrNone)
	takes(t, nested("|", "{100}")+"(?!)", "a", 0, api.ErrNone)
	takes(t, nested("|", "{2}")+"(?!)", "a", 0, api.ErrNone)
	takes(t, nested("", "?")+"(?!)", "a", 0, api.ErrNone)
	takes(t, strings.Repeat("(?:|)", 59)+"(?!)", "a", 0, api.ErrNone)
	takes(t, strings.Repeat("()?", 9)+strings.Repeat("(?:)??", 44)+"(?!)", "a", 0, api.ErrNone)
	takes(t, "(?:"+strings.Repeat("(?:|)", 55)+"|a)(?!)", "a", 2, api.ErrNone)
	takes(t, "(?:"+strings.Repeat("(?:)?", 55)+"|a)(?!)", "a", 2, api.ErrNone)
	takes(t, "(?:a|"+strings.Repeat("(?:|)", 55)+")(?!)", "a", 2, api.ErrNone)
	takes(t, nested("(?!)|", "{100}"), "a", 0, api.OK)
	takes(t, nested("(?!)a|", "{100}")+"b", "a", 2, api.ErrNone)
	takes(t, nested("||(?!)a", "{100}")+"(?!)", "a", 0, api.ErrNone)
	takes(t, nested("||(?>(?!))a*", "{100}")+"(?!)", "a", 0, api.ErrNone)
	takes(t, nested("(?=|a)|(?!(?!))", "{100}")+"(?!)", "a", 0, api.ErrNone)
	for _, text := range []string{"", "b", strings.Repeat("b", 5000), strings.Repeat("a", 5000)} {
		for _, pattern := range []string{nested("|b", "{100}") + "c", nested("|", "{100}") + "c", nested("b?", "{100}") + "c", nested("^|", "{100}") + "c", nested("(?:|^)", "{99}") + "c"} {
			if _, err := Match(pattern, text, 0, 50000); err != api.ErrBudget {
				t.Errorf("%q in %d bytes: error %d", pattern, len(text), err)
			}
		}
	}
	finds(t, strings.Repeat("(", 9)+strings.Repeat("){100}", 9)+"a", "a", 0, 1, 0, 0, 0, 0, 0, 0, 0, 0, 0, 0, 0, 0, 0, 0, 0, 0, 0, 0)
}
