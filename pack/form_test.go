package pack

import (
	"cabochon/api"
	"strings"
	"testing"
)

const (
	numberLetters = "CcSsLlQqnNwU"
	textLetters   = "aAZH"
	otherLetters  = "x@"
	turnedLetters = "SsLlQq"
)

// wantForm calls each function that reads forms with a form that is malformed or not. The items and the bytes would be errors too, if the form were none.
func wantForm(t *testing.T, form string, want api.Errno) {
	t.Helper()
	if err := Check(form); err != want {
		t.Errorf("Check of %.80q: error %d, not %d", form, err, want)
	}
	if want == api.OK {
		return
	}
	if s, err := Pack(form, nil); s != "" || err != want {
		t.Errorf("Pack of %.80q: %q, error %d", form, s, err)
	}
	if l, err := Unpack(form, ""); len(l) != 0 || err != want {
		t.Errorf("Unpack of %.80q: %v, error %d", form, l, err)
	}
	if n, err := Size(form); n != 0 || err != want {
		t.Errorf("Size of %.80q: %d, error %d", form, n, err)
	}
	if n, err := Used(form, nil); n != 0 || err != want {
		t.Errorf("Used of %.80q: %d, error %d", form, n, err)
	}
}

// P3.1: each byte as a letter, alone, with > and with counts.
func TestEachLetter(t *testing.T) {
	for char := range 256 {
		letter := string([]byte{byte(char)})
		counts := strings.Contains(numberLetters+textLetters+otherLetters, letter)
		turned := strings.Contains(turnedLetters, letter)
		at := letter == "@"
		all := counts && !strings.Contains(otherLetters, letter)
		list := []struct {
			form string
			ok   bool
		}{
			{letter, counts || letter == " "},
			{letter + ">", turned},
			{letter + "0", at}, {letter + ">0", false},
			{letter + "1", counts}, {letter + ">1", turned},
			{letter + "9", counts}, {letter + "10", counts}, {letter + "999", counts},
			{letter + "1000", counts}, {letter + ">1000", turned},
			{letter + "1001", false}, {letter + ">1001", false},
			{letter + "9999", false}, {letter + "10000", false},
			{letter + "*", all}, {letter + ">*", turned},
		}
		for _, c := range list {
			want := api.ErrForm
			if c.ok {
				want = api.OK
			}
			wantForm(t, c.form, want)
		}
	}
}

// P3.1
func TestForms(t *testing.T) {
	for _, form := range []string{
		"", "CC", "C C", "C  C", "C3C", "C3 C", "C* C*", "S>S", "S> S", "S>3 s>*", "a3A*Z", "@0@0", "x1000@1000",
		"C c S s L l Q q n N w U a A Z H x @", "CcSsLlQqnNwUaAZHx@", "C" + strings.Repeat(" ", 100000) + "C",
	} {
		wantForm(t, form, api.OK)
	}
	for _, form := range []string{
		"y", "Cy", "yC", "C y", "3", "*", ">", "3C", "*C", ">S", "C 3", "C *", "S >", "S >3", "S> 3", "S> *", "@ 0", "x 1",
		"C3 3", "C33 *", "C*3", "C3*", "C**", "C* *", "S>>", "S> >", "S3>", "S*>", "S3 >", "C-1", "C+1", "C1.0", "C1_0",
		"C00", "C01", "C001", "C0001", "@00", "@01", "@-1", "x00", "x01", "a01", "S>01", "w0", "U0",
		"x*", "@*", "x3x*", "@3@*", "C\tC", "C\nC", "C\x00C", "C\u00A0C", "\u0421", "\uFF23", "C\uFF11", "C\u0663",
		"C1001", "C2147483648", "C4294967297", "C9223372036854775808", "C18446744073709551617",
		"C" + strings.Repeat("0", 1000000) + "1", "C" + strings.Repeat("9", 1000000),
	} {
		wantForm(t, form, api.ErrForm)
	}
}

// P3.1: blanks at the ends of a form are let, as they are neither ahead of a > nor of a count.
func TestBlanksAtTheEnds(t *testing.T) {
	for _, form := range []string{" ", "   ", " C", "C ", "  C3 C*  ", " S> "} {
		wantForm(t, form, api.OK)
	}
	if s, err := Pack("  C  C ", numbers(1, 2)); s != "\x01\x02" || err != api.OK {
		t.Errorf("%q, error %d", s, err)
	}
}

// P3.1
func TestManyDirectives(t *testing.T) {
	for _, one := range []string{"C", "C ", "C1000", "S>3", "x", "@0 ", "U*", "a "} {
		wantForm(t, strings.Repeat(one, 49), api.OK)
		wantForm(t, strings.Repeat(one, 50), api.OK)
		wantForm(t, strings.Repeat(one, 51), api.ErrForm)
		wantForm(t, strings.Repeat(one, 100000), api.ErrForm)
	}
	wantForm(t, strings.Repeat("C", 50)+"   ", api.OK)
	wantForm(t, strings.Repeat("C", 50)+"y", api.ErrForm)
}

// P3.1: what is malformed comes ahead of what is wrong at directives that stand in front of it.
func TestFormComesFirst(t *testing.T) {
	for _, form := range []string{"Cy", "ay", "C C1001", "wx*", "U@*", "C*C 3", "x1000x1000x0"} {
		for _, items := range [][]Item{nil, numbers(-1), words("x"), words(strings.Repeat("x", 200000))} {
			if s, err := Pack(form, items); s != "" || err != api.ErrForm {
				t.Errorf("Pack of %q: %.80q, error %d", form, s, err)
			}
			if n, err := Used(form, items); n != 0 || err != api.ErrForm {
				t.Errorf("Used of %q: %d, error %d", form, n, err)
			}
		}
		for _, bytes := range []string{"", "\x80", "\xFF\xFF\xFF\xFF"} {
			if l, err := Unpack(form, bytes); len(l) != 0 || err != api.ErrForm {
				t.Errorf("Unpack of %q: %v, error %d", form, l, err)
			}
		}
	}
}
