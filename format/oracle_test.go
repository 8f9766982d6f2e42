package format

import (
	"cabochon/api"
	"fmt"
	"math"
	"math/big"
	"math/rand"
	"strconv"
	"strings"
	"testing"
)

// someNumbers are those at which signs, digits and lengths change.
var someNumbers = []int{
	0, 1, -1, 7, 8, -8, 9, 10, -10, 15, 16, -16, 63, 64, 100, -100, 255, 256, -4096, 12345, -99999, 1 << 31, -1 << 31, 1 << 32, 999999999999999999, math.MaxInt, -math.MaxInt, math.MinInt,
}

// radixes has the letters' bases, and prefixes what # puts in front.
var (
	radixes  = map[byte]int{'d': 10, 'x': 16, 'X': 16, 'o': 8, 'b': 2}
	prefixes = map[byte]string{'x': "0x", 'X': "0X", 'o': "0", 'b': "0b"}
)

// wanted is what P4.2 says of a number's field; a precision below 0 is none.
func wanted(letter byte, flags string, width, precision, n int) string {
	digits := new(big.Int).Abs(big.NewInt(int64(n))).Text(radixes[letter])
	if letter == 'X' {
		digits = strings.ToUpper(digits)
	}
	if n == 0 && precision == 0 {
		digits = ""
	}
	for len(digits) < precision {
		digits = "0" + digits
	}
	front := ""
	if strings.Contains(flags, "#") && n != 0 && !(letter == 'o' && strings.HasPrefix(digits, "0")) {
		front = prefixes[letter]
	}
	if n < 0 {
		front = "-" + front
	} else if strings.Contains(flags, "+") {
		front = "+" + front
	} else if strings.Contains(flags, " ") {
		front = " " + front
	}
	whole := front + digits
	for len(whole) < width {
		if strings.Contains(flags, "-") {
			whole += " "
		} else if strings.Contains(flags, "0") && precision < 0 {
			front += "0"
			whole = front + digits
		} else {
			whole = " " + whole
		}
	}
	return whole
}

// P4.2: all sets of flags with several sizes, held against a second reading of the chapter and, where Go's own formats mean the same, against these.
func TestAgainstOracles(t *testing.T) {
	for set := range 32 {
		flags := ""
		for i, flag := range []string{"-", "0", "+", " ", "#"} {
			if set>>i&1 == 1 {
				flags += flag
			}
		}
		for _, letter := range []byte(numberLetters) {
			for _, width := range []int{0, 1, 3, 4, 8, 30, 70} {
				for _, precision := range []int{-1, 0, 1, 2, 5, 20, 66} {
					holdAgainst(t, letter, flags, width, precision)
				}
			}
		}
	}
}

// holdAgainst formats some numbers by a field, with sizes in the form and with sizes as arguments.
func holdAgainst(t *testing.T, letter byte, flags string, width, precision int) {
	t.Helper()
	form := "%" + flags
	if width > 0 {
		form += strconv.Itoa(width)
	}
	if precision >= 0 {
		form += "." + strconv.Itoa(precision)
	}
	form += string([]byte{letter})
	starred := "%" + flags + "*.*" + string([]byte{letter})
	for _, n := range someNumbers {
		want := wanted(letter, flags, width, precision, n)
		formatted(t, form, numbers(n), want, 0)
		formatted(t, starred, numbers(width, precision, n), want, 0)
		formatted(t, starred, numbers(-width, precision, n), wanted(letter, flags+strings.Repeat("-", min(width, 1)), width, precision, n), 0)
		// Go knows no sign of no digits, no # of 0 and of decimals, and puts its prefix ahead of as many zeros as without one.
		same := !(n == 0 && (precision == 0 || strings.Contains(flags, "#"))) && !(strings.Contains(flags, "#") && strings.Contains(flags, "0"))
		if theirs := fmt.Sprintf(form, n); same && theirs != want {
			t.Errorf("%q of %d: Go has %q, not %q", form, n, theirs, want)
		}
	}
}

// P4.4: Format of Escape without arguments is the string.
func TestEscape(t *testing.T) {
	for _, c := range []struct{ s, want string }{
		{"", ""}, {"abc", "abc"}, {"%", "%%"}, {"a%b", "a%%b"}, {"%%", "%%%%"}, {"%d", "%%d"}, {"100%", "100%%"}, {"%<n>s%*d%", "%%<n>s%%*d%%"}, {"\xFF%\x00", "\xFF%%\x00"}, {"\uFF05", "\uFF05"},
		{strings.Repeat("%", 1000), strings.Repeat("%", 2000)}, {strings.Repeat("%", 100000), strings.Repeat("%", 200000)},
	} {
		form := Escape(c.s)
		if form != c.want {
			t.Errorf("Escape of %.80q: %.80q, not %.80q", c.s, form, c.want)
		}
		if len(form) <= 2000 {
			formatted(t, form, nil, c.s, 0)
			formatted(t, form, numbers(1, 2), c.s, 2)
		} else {
			wantForm(t, form, api.ErrForm)
		}
	}
	random := rand.New(rand.NewSource(4))
	for range 5000 {
		s := drawn(random, "%ds<n>*%% \xFF", 20)
		formatted(t, Escape(s), nil, s, 0)
	}
}

// drawn returns a text of fewer than so many of these bytes.
func drawn(random *rand.Rand, bytes string, end int) string {
	var text []byte
	for range random.Intn(end) {
		text = append(text, bytes[random.Intn(len(bytes))])
	}
	return string(text)
}

// P4.4: d of a number is read back as the number.
func TestReadBack(t *testing.T) {
	random := rand.New(rand.NewSource(44))
	list := append([]int{}, someNumbers...)
	for range 2000 {
		list = append(list, int(random.Uint64())>>random.Intn(64))
	}
	for _, n := range list {
		for _, form := range []string{"%d", "%5d", "%-5d", "%05d", "%+d", "% d", "%.5d", "%#d"} {
			s, err := Format(form, numbers(n))
			read, errOfRead := strconv.Atoi(strings.Trim(s, " "))
			if err != api.OK || errOfRead != nil || read != n {
				t.Errorf("%q of %d: %q (error %d)", form, n, s, err)
			}
		}
		s, _ := Format("%d", numbers(n))
		if n > -1000000000000000000 && n < 1000000000000000000 {
			formatted(t, "%d", words(s), s, 0)
		}
	}
}

// P4.4, R1, R3: whatever the arguments are, there is no panic, with an error no result, and no field narrower than its width.
func TestAnyArguments(t *testing.T) {
	random := rand.New(rand.NewSource(444))
	for range 100000 {
		form := drawn(random, "%%%%%<n>_-0+ #123.*ddxXobscpy", 12)
		args := []Arg{
			{Name: "n", Int: random.Intn(600) - 300}, {Name: "_", IsText: true, Text: drawn(random, "01-\n\\\"\xFF", 5)},
			{Int: int(random.Uint64())}, {IsText: true, Text: strconv.Itoa(random.Intn(100))}, {Int: random.Intn(20) - 5},
		}
		random.Shuffle(len(args), func(i, k int) { args[i], args[k] = args[k], args[i] })
		args = args[:random.Intn(len(args)+1)]
		s, err := Format(form, args)
		left, errOfLeft := Left(form, args)
		count, errOfFields := Fields(form)
		names, errOfNames := Names(form)
		if err != errOfLeft || err != api.OK && (s != "" || left != 0) {
			t.Fatalf("%q, %v: Format %q (error %d), Left %d (error %d)", form, args, s, err, left, errOfLeft)
		}
		malformed := Check(form)
		if malformed != errOfFields || malformed != errOfNames || (malformed == api.OK) != (err != api.ErrForm) || len(names) > 0 && count > 0 {
			t.Fatalf("%q: Check %d, Fields %d (error %d), Names %q (error %d), Format's error %d", form, malformed, count, errOfFields, names, errOfNames, err)
		}
		if err == api.OK && len(names) == 0 && left != len(args)-count || err == api.OK && len(names) > 0 && left != 0 {
			t.Fatalf("%q of %d arguments: Fields %d, Left %d", form, len(args), count, left)
		}
	}
	for range 20000 {
		width := random.Intn(30)
		field := "%" + drawn(random, "-0+ #", 4) + "*" + drawn(random, ".", 2) + string([]byte{allLetters[random.Intn(len(allLetters))]})
		sign := 1 - 2*random.Intn(2)
		if s, err := Format(field, numbers(sign*width, random.Intn(256))); err != api.OK || len(s) < width {
			t.Fatalf("%q with the width %d: %q (error %d)", field, width, s, err)
		}
	}
}
