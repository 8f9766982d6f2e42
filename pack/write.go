package pack

import (
	"cabochon/api"
	"slices"
	"unicode/utf8"
)

// maxBytes is the length of the longest string that is packed.
const maxBytes = 100000

// writer has the bytes that are packed so far, and how many of the items are used for them.
type writer struct {
	items []Item
	used  int
	bytes []byte
}

// write packs items by a form.
func write(form string, items []Item) (writer, api.Errno) {
	list, ok := directives(form)
	if !ok {
		return writer{}, api.ErrForm
	}
	w := writer{items: items}
	for _, d := range list {
		if err := w.follow(d); err != api.OK {
			return writer{}, err
		}
	}
	return w, api.OK
}

// follow does what a directive asks for.
func (w *writer) follow(d directive) api.Errno {
	if d.letter == 'x' {
		return w.add(make([]byte, d.count))
	}
	if d.letter == '@' {
		return w.goTo(d.count)
	}
	for range d.uses(len(w.items) - w.used) {
		if err := w.take(d); err != api.OK {
			return err
		}
	}
	return api.OK
}

// uses returns how many items d asks for where so many are left.
func (d directive) uses(left int) int {
	if !d.isNumber {
		return 1
	}
	if d.all {
		return left
	}
	return d.count
}

// take packs the next item.
func (w *writer) take(d directive) api.Errno {
	if w.used == len(w.items) {
		return api.ErrEnd
	}
	item := w.items[w.used]
	if item.IsText == d.isNumber {
		return api.ErrArg
	}
	w.used++
	bytes, err := d.bytes(item)
	if err != api.OK {
		return err
	}
	return w.add(bytes)
}

func (w *writer) add(bytes []byte) api.Errno {
	if len(w.bytes)+len(bytes) > maxBytes {
		return api.ErrRange
	}
	w.bytes = append(w.bytes, bytes...)
	return api.OK
}

func (w *writer) goTo(place int) api.Errno {
	if place > len(w.bytes) {
		return w.add(make([]byte, place-len(w.bytes)))
	}
	w.bytes = w.bytes[:place]
	return api.OK
}

// bytes returns what d makes of an item of its kind.
func (d directive) bytes(item Item) ([]byte, api.Errno) {
	if d.letter == 'H' {
		bytes, ok := d.fromDigits(item.Text)
		if !ok {
			return nil, api.ErrArg
		}
		return bytes, api.OK
	}
	if !d.isNumber {
		return d.filled(item.Text), api.OK
	}
	if !d.fits(item.Int) {
		return nil, api.ErrRange
	}
	return d.fromNumber(item.Int), api.OK
}

// filled returns as many bytes as d asks for, with s at their beginning.
func (d directive) filled(s string) []byte {
	size := d.count
	if d.all {
		size = len(s)
	}
	if d.all && d.letter == 'Z' {
		size++
	}
	bytes := make([]byte, size)
	end := copy(bytes, s)
	if d.letter == 'A' {
		for i := end; i < size; i++ {
			bytes[i] = ' '
		}
	}
	if d.letter == 'Z' && len(s) > size {
		bytes[size-1] = 0
	}
	return bytes
}

// fits tells whether d has bytes for the number n.
func (d directive) fits(n int) bool {
	bits := 8 * d.size
	switch {
	case d.letter == 'U':
		// The bounds come first: a number may not fit into a rune.
		return n >= 0 && n <= utf8.MaxRune && utf8.ValidRune(rune(n))
	case d.letter == 'w':
		return n >= 0
	case d.is(ofSigned):
		// What is left of all bits but the sign is the sign again.
		return n>>(bits-1) == 0 || n>>(bits-1) == -1
	}
	return n >= 0 && n>>bits == 0
}

// fromNumber returns the bytes of a number that fits.
func (d directive) fromNumber(n int) []byte {
	switch {
	case d.letter == 'U':
		return utf8.AppendRune(nil, rune(n))
	case d.letter == 'w':
		return sevens(n)
	}
	bytes := make([]byte, d.size)
	for i := range bytes {
		bytes[i] = byte(n >> (8 * i))
	}
	if d.greatestFirst {
		slices.Reverse(bytes)
	}
	return bytes
}

// sevens returns n, which is from 0 on, in bytes of 7 bits, with 128 added to all but the last one.
func sevens(n int) []byte {
	bytes := []byte{byte(n % 128)}
	for n /= 128; n > 0; n /= 128 {
		bytes = append(bytes, byte(n%128+128))
	}
	slices.Reverse(bytes)
	return bytes
}
