package format

import (
	"cabochon/api"
	"regexp"
	"slices"
	"strings"
	"testing"
)

const (
	numberLetters = "dxXob"
	allLetters    = "dxXobscp"
)

// wantForm calls each function that reads forms with one that is malformed or not. The arguments would be errors too, if the form were none.
func wantForm(t *testing.T, form string, want api.Errno) {
	t.Helper()
	if err := Check(form); err != want {
		t.Errorf("Check of %.80q: error %d, not %d", form, err, want)
	}
	if n, err := Fields(form); err != want || want != api.OK && n != 0 {
		t.Errorf("Fields of %.80q: %d, error %d, not %d", form, n, err, want)
	}
	if l, err := Names(form); err != want || want != api.OK && len(l) != 0 {
		t.Errorf("Names of %.80q: %q, error %d, not %d", form, l, err, want)
	}
	if want == api.OK {
		return
	}
	for _, args := range [][]Arg{nil, words("x", "x", "x"), {{Name: "n", Int: -2000}}, words(strings.Repeat("x", 200000))} {
		if s, err := Format(form, args); s != "" || err != want {
			t.Errorf("Format of %.80q: %.80q, error %d, not %d", form, s, err, want)
		}
		if n, err := Left(form, args); n != 0 || err != want {
			t.Errorf("Left of %.80q: %d, error %d, not %d", form, n, err, want)
		}
	}
}

// P4.1: each byte as a letter, with everything that may stand in front of it.
func TestEachLetter(t *testing.T) {
	for char := range 256 {
		letter := string([]byte{byte(char)})
		want := api.ErrForm
		if strings.Contains(allLetters, letter) {
			want = api.OK
		}
		for _, front := range []string{"%5", "%.", "%.3", "%*", "%.*", "%5.3", "%*.*", "%-5", "%<n>", "%<n>#-5.3", "ab%.7"} {
			wantForm(t, front+letter, want)
			wantForm(t, "%%"+front+letter, want)
		}
		if letter != "%" {
			wantForm(t, "%"+letter, want)
		}
	}
}

// P4.1
func TestForms(t *testing.T) {
	for _, form := range []string{
		"", "a", " ", "\n\x00\xFF", "%%", "%%%%", "a%%b", "%%d", "%d%%", "%%%d", "%d%d", "100%%", "<n>", "*", "%%<n>", "%%*d",
		"%-d", "%0d", "%+d", "% d", "%#d", "%-0+ #d", "%#  ++00--d", "%--------d", "%0000000d", "% +-0#5.5d", "%-s", "%#c", "%+p",
		"%1d", "%9d", "%10d", "%999d", "%1000d", "%01000d", "%0001000d", "%05d", "%005d", "%0-05d", "%-01d", "% 01d",
		"%.d", "%.0d", "%.00d", "%.5d", "%.05d", "%.1000d", "%.01000d", "%.0000000000000000000000000000001000d", "%5.d", "%5.0s", "%1000.1000d", "%.5c", "%.5p",
		"%*d", "%.*d", "%*.*d", "%-*d", "%0*d", "%5.*d", "%*.5d", "%*.d", "%*s%%", "%*c", "%.*c",
		"%<n>d", "%<_>d", "%<a_b>d", "%<abcdefghijklmnopqrstuvwxyz_>s", "%<__>x", "%<n>05.2d", "%<n>-+ #0d", "%<n>d%<n>d%<m>s", "%<n>d %%", "%%%<n>d", "%<n>.c",
		"%<" + strings.Repeat("n", 41) + ">d",
	} {
		wantForm(t, form, api.OK)
	}
	for _, form := range []string{
		"%", "a%", "%%%", "%d%", "%y", "%i", "%u", "%f", "%e", "%B", "%D", "%S", "%%%y", "% %", "%5%", "%-%", "%.%", "%.5%", "%*%", "%<n>%", "%\n", "%é", "%\xFF", "%\x00d",
		"%-", "%0", "%+", "% ", "%#", "%5", "%1000", "%.", "%.5", "%*", "%.*", "%*.", "%*.*", "%<", "%<n", "%<n>", "%<n>5", "%<n>.",
		"%1001d", "%01001d", "%9999d", "%10000d", "%2147483653d", "%4294967301d", "%18446744073709551621d", "%" + strings.Repeat("9", 1900) + "d",
		"%.1001d", "%.01001d", "%.9999d", "%.10000d", "%.4294967301d", "%.18446744073709551621d", "%." + strings.Repeat("9", 1900) + "d", "%5.1001s", "%1001.5s", "%1001c", "%.1001c", "%<n>1001d", "%<n>.1001d",
		"%5-d", "%5+d", "%5 d", "%5#d", "%-5-d", "%.-5d", "%.+5d", "%. 5d", "%.#5d", "%.5-d", "%.5 d", "%5.5.5d", "%..d", "%.5.d",
		"%5*d", "%*5d", "%*0d", "%*-d", "%**d", "%.5*d", "%.*5d", "%.**d", "%.*.*d", "%-5*d", "%*.*.d", "%*.-d",
		"%<>d", "%<n d", "%n>d", "%<n>", "%<N>d", "%<n1>d", "%<1>d", "%<n-m>d", "%< n>d", "%<n >d", "%<n>>d", "%<<n>d", "%<é>d", "%<n><m>d", "%<n\xFF>d", "%<n.m>d", "%<n`>d", "%<n{>d", "%<n%>d", "%<^>d",
		"%-<n>d", "%0<n>d", "%5<n>d", "%.5<n>d", "%.<n>d", "%*<n>d", "% <n>d", "%5<n>5d",
		"%d%<n>d", "%<n>d%d", "%<n>d%<m>d%s", "%%%d %% %<n>s", "%s%s%<n>s", "%<n>c%c",
		"%<n>*d", "%<n>.*d", "%<n>*.*d", "%<n>-*d", "%<n>5.*d", "%<n>*.5d", "%<n>d%<m>*d", "%<n>d%*d", "%<n>*",
		"\uFF05d y %y", "%\uFF11d", "%\u0665d",
	} {
		wantForm(t, form, api.ErrForm)
	}
}

// P4.1: all short forms, held against the words of the chapter as patterns.
func TestShortForms(t *testing.T) {
	alphabet, longest := "%<>n_0-19.*ds", 6
	unnamed := regexp.MustCompile(`(?s)^([^%]|%%|%[-0+ #]*([1-9][0-9]{0,2}|1000|\*)?(\.([0-9]{0,3}|\*))?[dxXobscp])*$`)
	named := regexp.MustCompile(`(?s)^([^%]|%%|%<[a-z_]+>[-0+ #]*([1-9][0-9]{0,2})?(\.[0-9]{0,3})?[dxXobscp])*$`)
	var try func(form string)
	try = func(form string) {
		want := api.ErrForm
		if unnamed.MatchString(form) || named.MatchString(form) {
			want = api.OK
		}
		if err := Check(form); err != want {
			t.Fatalf("Check of %q: error %d, not %d", form, err, want)
		}
		if len(form) == longest {
			return
		}
		for _, letter := range alphabet {
			try(form + string(letter))
		}
	}
	try("%")
}

// P4.1: formats of the greatest length, and beyond.
func TestLongForms(t *testing.T) {
	for _, one := range []string{"x", "%%", "%d", "%<n>d", "%-5d", "%.5s", "%*d "} {
		most := strings.Repeat(one, 2000/len(one))
		most += strings.Repeat("y", 2000-len(most))
		wantForm(t, most, api.OK)
		wantForm(t, most+"y", api.ErrForm)
		wantForm(t, strings.Repeat(one, 100000), api.ErrForm)
	}
	if s, err := Format(strings.Repeat("x", 2000), nil); s != strings.Repeat("x", 2000) || err != api.OK {
		t.Errorf("%.80q, error %d", s, err)
	}
	wantForm(t, "%"+strings.Repeat("0", 1998)+"d", api.OK)
	wantForm(t, "%"+strings.Repeat("0", 1999)+"d", api.ErrForm)
	wantForm(t, "%."+strings.Repeat("0", 1996)+"5d", api.OK)
	wantForm(t, "%<"+strings.Repeat("n", 1996)+">d", api.OK)
	wantForm(t, "%<"+strings.Repeat("n", 1997)+">d", api.ErrForm)
}

// P4.3
func TestFields(t *testing.T) {
	for _, c := range []struct {
		form string
		want int
	}{
		{"", 0}, {"abc", 0}, {"%%", 0}, {"%%%%", 0}, {"%d", 1}, {"%s%%", 1}, {"%d%d", 2}, {"%d %s %c %p %x %X %o %b", 8},
		{"%5d", 1}, {"%.5d", 1}, {"%-+ 0#5.5d", 1}, {"%*d", 2}, {"%.*d", 2}, {"%*.*d", 3}, {"%5.*d", 2}, {"%*.5d", 2}, {"%*.d", 2}, {"%*.*d%%%s", 4}, {"%*.*d%*.*s", 6}, {"%*c", 2}, {"%.*c", 2},
		{"%<n>d", 0}, {"%<n>d%<m>5.2s%<n>x", 0}, {strings.Repeat("%d", 1000), 1000}, {strings.Repeat("%*.*d", 400), 1200},
	} {
		if n, err := Fields(c.form); n != c.want || err != api.OK {
			t.Errorf("Fields of %.80q: %d (error %d), not %d", c.form, n, err, c.want)
		}
	}
}

// P4.3
func TestNames(t *testing.T) {
	for _, c := range []struct {
		form string
		want []string
	}{
		{"", nil}, {"abc", nil}, {"%%", nil}, {"%d", nil}, {"%*.*d%s", nil}, {"%%<n>", nil}, {"<n>%d", nil},
		{"%<n>d", []string{"n"}}, {"%<n>d%<n>s", []string{"n"}}, {"%<b>s%<a>s%<b>s", []string{"a", "b"}}, {"%<b>s%<a>s%<b>s%<a>s%%%<b>d", []string{"a", "b"}},
		{"%<z>d%<_>d%<a>d", []string{"_", "a", "z"}}, {"%<aa>d%<a>d%<ab>d%<a_>d%<b>d", []string{"a", "a_", "aa", "ab", "b"}}, {"%<_a>d%<__>d%<_>d", []string{"_", "__", "_a"}},
		{"%<n>-05.2d", []string{"n"}},
	} {
		for range 2 { // what a caller does with a result changes no later one
			l, err := Names(c.form)
			if !slices.Equal(l, c.want) || err != api.OK {
				t.Errorf("Names of %q: %q (error %d), not %q", c.form, l, err, c.want)
			}
			for i := range l {
				l[i] = "x"
			}
		}
	}
}
