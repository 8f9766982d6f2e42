package pack

import (
	"cabochon/api"
	"encoding/hex"
	"math/rand"
	"strconv"
	"strings"
	"testing"
)

// P3.2
func TestSize(t *testing.T) {
	for _, c := range []struct {
		form string
		want int
	}{
		{"", 0}, {"C", 1}, {"c", 1}, {"S", 2}, {"s", 2}, {"L", 4}, {"l", 4}, {"Q", 8}, {"q", 8}, {"n", 2}, {"N", 4},
		{"S>", 2}, {"s>", 2}, {"L>", 4}, {"l>", 4}, {"Q>", 8}, {"q>", 8},
		{"C3", 3}, {"c3", 3}, {"S3", 6}, {"s3", 6}, {"L3", 12}, {"l3", 12}, {"Q3", 24}, {"q3", 24}, {"n3", 6}, {"N3", 12}, {"Q>3", 24},
		{"a", 1}, {"A", 1}, {"Z", 1}, {"a3", 3}, {"A3", 3}, {"Z3", 3}, {"a1000", 1000},
		{"H", 1}, {"H1", 1}, {"H2", 1}, {"H3", 2}, {"H4", 2}, {"H999", 500}, {"H1000", 500},
		{"x", 1}, {"x3", 3}, {"x1000", 1000}, {"@", 0}, {"@0", 0}, {"@3", 3}, {"@1000", 1000},
		{"C5@3", 3}, {"C5@", 0}, {"C@3C", 4}, {"C5@3x2@4n", 6}, {"C5@5", 5}, {"S2H3x", 7}, {"C a3 N", 8},
		{strings.Repeat("Q1000", 50), 400000}, {strings.Repeat("a1000", 50), 50000}, {strings.Repeat("Q1000", 49) + "@7", 7},
	} {
		if n, err := Size(c.form); n != c.want || err != api.OK {
			t.Errorf("Size of %.80q: %d (error %d), not %d", c.form, n, err, c.want)
		}
	}
}

// P3.2: forms whose size hangs on their items.
func TestSizeOfItems(t *testing.T) {
	list := []string{"w", "w3", "U", "U3", "S>*"}
	for _, letter := range numberLetters + textLetters {
		list = append(list, string(letter)+"*")
	}
	for _, form := range list {
		for _, whole := range []string{form, "C" + form, form + "C", "x3" + form, form + "@0"} {
			if n, err := Size(whole); n != 0 || err != api.ErrArg {
				t.Errorf("Size of %q: %d, error %d", whole, n, err)
			}
		}
	}
}

// P3.2
func TestHex(t *testing.T) {
	all := make([]byte, 256)
	for i := range all {
		all[i] = byte(i)
	}
	for _, bytes := range []string{"", "\x00", "\x01\xFF", "\xAB\xCD\xEF", "abc", string(all), strings.Repeat(string(all), 1000)} {
		digits := Hex(bytes)
		if want := hex.EncodeToString([]byte(bytes)); digits != want {
			t.Errorf("Hex of %.80q: %.80q, not %.80q", bytes, digits, want)
		}
		if s, err := Bytes(digits); s != bytes || err != api.OK {
			t.Errorf("Bytes of %.80q: %.80q (error %d), not %.80q", digits, s, err, bytes)
		}
	}
}

// P3.2
func TestBytes(t *testing.T) {
	for char := range 256 {
		digit := string([]byte{byte(char)})
		ok := strings.Contains("0123456789abcdef", digit)
		for _, s := range []string{digit + "0", "0" + digit, "ab" + digit + "0cd", "abcd0" + digit} {
			bytes, err := Bytes(s)
			if !ok && (bytes != "" || err != api.ErrArg) {
				t.Errorf("Bytes of %q: %q, error %d", s, bytes, err)
			}
			if ok && (Hex(bytes) != s || err != api.OK) {
				t.Errorf("Bytes of %q: %q, error %d", s, bytes, err)
			}
		}
	}
	for _, s := range []string{"0", "a", "abc", "00000", "x", " ", "a ", "0x", "+1", "0g", "\u0661", strings.Repeat("f", 200001), strings.Repeat("f", 200000) + "gf"} {
		if bytes, err := Bytes(s); bytes != "" || err != api.ErrArg {
			t.Errorf("Bytes of %.80q: %.80q, error %d", s, bytes, err)
		}
	}
	if bytes, err := Bytes(strings.Repeat("7f", 200000)); bytes != strings.Repeat("\x7F", 200000) || err != api.OK {
		t.Errorf("Bytes of 200000 bytes: error %d", err)
	}
}

// drawn is a directive with items that it gives back.
type drawn struct {
	form  string
	items []Item
	// toEnd tells that nothing may follow, as it would be read too.
	toEnd bool
}

// draw makes a directive of numbers or of a text.
func draw(random *rand.Rand) drawn {
	if random.Intn(3) == 0 {
		return drawText(random)
	}
	form, number := drawLetter(random)
	all := random.Intn(8) == 0
	count := random.Intn(5)
	if all {
		form += "*"
	} else if count == 0 {
		count = 1
	} else {
		form += strconv.Itoa(count)
	}
	var items []Item
	for range count {
		items = append(items, Item{Int: number()})
	}
	return drawn{form, items, all}
}

// drawLetter chooses a letter of numbers, and returns what makes numbers for it.
func drawLetter(random *rand.Rand) (form string, number func() int) {
	switch random.Intn(10) {
	case 0:
		return "w", func() int { return sevenBits[random.Intn(len(sevenBits))].n }
	case 1:
		return "U", func() int { return characters[random.Intn(len(characters))].code }
	}
	letter := fixedLetters[random.Intn(len(fixedLetters))]
	return letter.form, func() int {
		return []int{letter.least, letter.most, letter.sample, 0, 1, random.Intn(128)}[random.Intn(6)]
	}
}

// drawText makes a directive of a text that is neither cut nor filled.
func drawText(random *rand.Rand) drawn {
	letter := "aAZH"[random.Intn(4)]
	symbols := "ab\xE9 \x00"
	switch letter {
	case 'A':
		symbols = "ab\xE9"
	case 'Z':
		symbols = "ab\xE9 "
	case 'H':
		symbols = "0123456789abcdef"
	}
	var text []byte
	for range random.Intn(6) {
		text = append(text, symbols[random.Intn(len(symbols))])
	}
	if letter == 'H' && len(text)%2 == 1 {
		text = text[1:]
	}
	items := []Item{{IsText: true, Text: string(text)}}
	if len(text) == 0 || random.Intn(4) == 0 {
		return drawn{string(letter) + "*", items, letter != 'Z'}
	}
	return drawn{string(letter) + strconv.Itoa(len(text)), items, false}
}

// P3.3: there and back, and the size.
func TestThereAndBack(t *testing.T) {
	random := rand.New(rand.NewSource(3))
	for range 20000 {
		var forms []string
		var items []Item
		for range random.Intn(6) {
			d := draw(random)
			forms, items = append(forms, d.form), append(items, d.items...)
			if d.toEnd {
				break
			}
		}
		form := strings.Join(forms, strings.Repeat(" ", random.Intn(3)))
		bytes, err := Pack(form, items)
		if err != api.OK {
			t.Fatalf("Pack of %q, %v: error %d", form, items, err)
		}
		unpacked(t, form, bytes, items)
		if n, err := Used(form, items); n != len(items) || err != api.OK {
			t.Fatalf("Used of %q, %v: %d, error %d", form, items, n, err)
		}
		n, err := Size(form)
		if hangs := strings.ContainsAny(form, "wU*"); hangs && err != api.ErrArg || !hangs && (n != len(bytes) || err != api.OK) {
			t.Fatalf("Size of %q: %d (error %d), where Pack has %d", form, n, err, len(bytes))
		}
	}
}

// P3.3: Pack has Size bytes, also with x and @, and of strings that are cut or filled.
func TestSizeOfPack(t *testing.T) {
	random := rand.New(rand.NewSource(33))
	letters := []string{"C", "c", "S", "s>", "L>", "l", "Q", "q>", "n", "N", "a", "A", "Z", "H", "x", "@"}
	for range 20000 {
		form := ""
		var items []Item
		for range random.Intn(8) {
			letter, count := letters[random.Intn(len(letters))], 1+random.Intn(7)
			form += letter + strconv.Itoa(count)
			switch {
			case strings.Contains(textLetters, letter):
				items = append(items, Item{IsText: true, Text: "abcdefabc"[:random.Intn(10)]})
			case !strings.Contains(otherLetters, letter):
				for range count {
					items = append(items, Item{Int: random.Intn(128)})
				}
			}
		}
		bytes, err := Pack(form, items)
		n, errOfSize := Size(form)
		if err != api.OK || errOfSize != api.OK || n != len(bytes) {
			t.Fatalf("%q: Size %d (error %d), Pack of %d bytes (error %d)", form, n, errOfSize, len(bytes), err)
		}
	}
}

// R1, R3: whatever the arguments are, there is no panic, and with an error no result.
func TestAnyArguments(t *testing.T) {
	random := rand.New(rand.NewSource(333))
	for range 50000 {
		form, bytes := "", ""
		for range random.Intn(8) {
			form += string("CcSsLlQqnNwUaAZHx@>*0123 y"[random.Intn(26)])
			bytes += string([]byte{"\x00\x01\x7F\x80\x81\xBF\xC2\xE2\xFF "[random.Intn(10)]})
		}
		items := []Item{{Int: random.Int() - random.Int()}, {IsText: true, Text: bytes}, {Int: random.Intn(300)}}
		s, err := Pack(form, items)
		used, errOfUsed := Used(form, items)
		if err != errOfUsed || err != api.OK && s != "" || err != api.OK && used != 0 {
			t.Fatalf("%q: Pack %q (error %d), Used %d (error %d)", form, s, err, used, errOfUsed)
		}
		if l, err := Unpack(form, bytes); err != api.OK && len(l) != 0 {
			t.Fatalf("%q: Unpack %v, error %d", form, l, err)
		}
		if n, errOfSize := Size(form); errOfSize != api.OK && n != 0 || err == api.OK && errOfSize == api.OK && n != len(s) {
			t.Fatalf("%q: Size %d (error %d), Pack %q (error %d)", form, n, errOfSize, s, err)
		}
	}
}
