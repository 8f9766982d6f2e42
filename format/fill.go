package format

import (
	"cabochon/api"
	"math"
)

// maxBytes is the length of the longest string that is filled.
const maxBytes = 100000

// filler has the bytes that are filled so far, and how many arguments are taken for them.
type filler struct {
	args  []Arg
	taken int
	// byName tells that the fields have names, and named has the first argument of each name.
	byName bool
	named  map[string]Arg
	bytes  []byte
}

// fill fills a format with arguments.
func fill(form string, args []Arg) (filler, api.Errno) {
	list, ok := read(form)
	if !ok {
		return filler{}, api.ErrForm
	}
	f := filler{args: args}
	for _, p := range list {
		if err := f.add(p); err != api.OK {
			return filler{}, err
		}
	}
	return f, api.OK
}

// add fills a piece of the format.
func (f *filler) add(p piece) api.Errno {
	text := p.text
	if p.isField {
		var err api.Errno
		if text, err = f.result(p.field); err != api.OK {
			return err
		}
	}
	if len(f.bytes)+len(text) > maxBytes {
		return api.ErrArg
	}
	f.bytes = append(f.bytes, text...)
	return api.OK
}

// result takes the arguments of a field, and returns what it is filled with.
func (f *filler) result(d field) (string, api.Errno) {
	if err := f.settle(&d); err != api.OK {
		return "", err
	}
	arg, err := f.argument(d.name)
	if err != api.OK {
		return "", err
	}
	text, ok := d.shown(arg)
	if !ok {
		return "", api.ErrArg
	}
	return text, api.OK
}

// settle takes the sizes that a field asks for.
func (f *filler) settle(d *field) api.Errno {
	if d.width.asked {
		width, err := f.takeSize(-maxSize)
		if err != api.OK {
			return err
		}
		d.setWidth(width)
	}
	if d.precision.asked {
		precision, err := f.takeSize(math.MinInt)
		if err != api.OK {
			return err
		}
		d.setPrecision(precision)
	}
	return api.OK
}

// takeSize takes the next argument, a number from least on, for a *.
func (f *filler) takeSize(least int) (int, api.Errno) {
	arg, err := f.take()
	if err != api.OK {
		return 0, err
	}
	if arg.IsText || arg.Int < least || arg.Int > maxSize {
		return 0, api.ErrArg
	}
	return arg.Int, api.OK
}

// take returns the next argument.
func (f *filler) take() (Arg, api.Errno) {
	if f.taken == len(f.args) {
		return Arg{}, api.ErrEnd
	}
	arg := f.args[f.taken]
	f.taken++
	return arg, api.OK
}

// argument returns the argument of this name, or the next one for a field without a name.
func (f *filler) argument(name string) (Arg, api.Errno) {
	if name == "" {
		return f.take()
	}
	if !f.byName {
		f.byName, f.named = true, firstOfNames(f.args)
	}
	arg, ok := f.named[name]
	if !ok {
		return Arg{}, api.ErrName
	}
	return arg, api.OK
}

// firstOfNames returns the first argument of each name.
func firstOfNames(args []Arg) map[string]Arg {
	table := map[string]Arg{}
	for _, arg := range args {
		if _, ok := table[arg.Name]; !ok {
			table[arg.Name] = arg
		}
	}
	return table
}

// setWidth gives d the width of a *.
func (d *field) setWidth(width int) {
	if width < 0 {
		d.flags += toLeft
		width = -width
	}
	d.width = size{count: width}
}

// setPrecision gives d the precision of a *.
func (d *field) setPrecision(precision int) {
	d.hasPrecision = precision >= 0
	d.precision = size{count: precision}
}
