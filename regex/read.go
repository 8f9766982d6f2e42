package regex

import (
	"cabochon/api"
	"strconv"
	"strings"
)

const (
	maxPattern = 300
	maxGroups  = 9
	maxWithin  = 10
	maxRounds  = 100
	// endless stands for rounds without a greatest number.
	endless = -1
)

// special are the bytes that are themselves only behind a \.
const special = `\^$.|?*+()[]{}`

func isSpecial(c byte) bool {
	return strings.IndexByte(special, c) >= 0
}

// form is a pattern that is read.
type form struct {
	whole  piece
	groups int
}

// read reads a pattern.
func read(pattern string) (form, api.Errno) {
	if len(pattern) > maxPattern {
		return form{}, api.ErrForm
	}
	r := reader{rest: pattern}
	var whole piece
	if err := caught(func() { whole = r.pattern() }); err != api.OK {
		return form{}, err
	}
	return form{whole: whole, groups: r.groups}, api.OK
}

// reader has what is not yet read of a pattern. Where that is malformed, its methods throw ErrForm.
type reader struct {
	rest string
	// groups counts the numbered groups, and within the groups of every kind that are open.
	groups, within int
	// referred is the greatest number of a back reference.
	referred int
}

// has tells whether s is next.
func (r *reader) has(s string) bool {
	return strings.HasPrefix(r.rest, s)
}

// skip reads s if it is next, and tells whether it is.
func (r *reader) skip(s string) bool {
	rest, ok := strings.CutPrefix(r.rest, s)
	r.rest = rest
	return ok
}

// next reads a byte.
func (r *reader) next() byte {
	require(r.rest != "")
	c := r.rest[0]
	r.rest = r.rest[1:]
	return c
}

// pattern reads all that there is.
func (r *reader) pattern() piece {
	whole := r.alternatives()
	require(r.rest == "" && r.referred <= r.groups)
	return whole
}

// alternatives reads alternatives up to the end of a group, or of the pattern.
func (r *reader) alternatives() piece {
	list := []piece{r.alternative()}
	for r.skip("|") {
		list = append(list, r.alternative())
	}
	return joined(list, piece{}, either)
}

// alternative reads a row of pieces.
func (r *reader) alternative() piece {
	var list []piece
	for r.rest != "" && !r.has("|") && !r.has(")") {
		list = append(list, r.piece())
	}
	return joined(list, nothing(), row)
}

// joined joins pieces from the back, where last stands.
func joined(list []piece, last piece, join func(p, q piece) piece) piece {
	for i := len(list) - 1; i >= 0; i-- {
		last = join(list[i], last)
	}
	return last
}

// piece reads an atom and its repeat. A repeat of a border, or of a repeat, is left to be read as an atom, which it is not.
func (r *reader) piece() piece {
	if holds, ok := r.border(); ok {
		return border(holds)
	}
	p := r.atom()
	least, more, ok := r.rounds()
	if !ok {
		return p
	}
	lazy := r.skip("?")
	p = repeat(p, least, more, lazy)
	if !lazy && r.skip("+") {
		return atomic(p)
	}
	return p
}

// border reads an atom that is asked for a place alone, and returns false if there is none.
func (r *reader) border() (func(text string, place int) bool, bool) {
	switch {
	case r.skip("^"):
		return isLineStart, true
	case r.skip("$"):
		return isLineEnd, true
	case r.skip(`\A`):
		return isTextStart, true
	case r.skip(`\z`):
		return isTextEnd, true
	case r.skip(`\b`):
		return isWordBorder, true
	case r.skip(`\B`):
		return isNoWordBorder, true
	}
	return nil, false
}

// atom reads any other atom.
func (r *reader) atom() piece {
	if bytes, ok := r.many(); ok {
		return oneOf(bytes)
	}
	switch c := r.next(); {
	case c == '(':
		return r.group()
	case c == '[':
		return oneOf(r.class())
	case c == '.':
		return oneOf(one('\n').others())
	case c == '\\':
		return r.escape()
	default:
		require(!isSpecial(c))
		return oneOf(one(c))
	}
}

// escape reads what stands behind a \ outside of classes.
func (r *reader) escape() piece {
	if r.rest == "" || r.rest[0] < '1' || r.rest[0] > '9' {
		return oneOf(one(r.escaped()))
	}
	number := int(r.next() - '0')
	r.referred = max(r.referred, number)
	return back(number)
}

// group reads what stands behind the bracket of a group, up to the one that closes it.
func (r *reader) group() piece {
	r.within++
	require(r.within <= maxWithin)
	wrap := r.kind()
	p := r.alternatives()
	require(r.skip(")"))
	r.within--
	return wrap(p)
}

// kind reads what kind of group there is. Other bytes behind a ? are left to be read as a repeat of nothing.
func (r *reader) kind() func(piece) piece {
	switch {
	case r.skip("?:"):
		return func(p piece) piece { return p }
	case r.skip("?="):
		return ahead
	case r.skip("?!"):
		return notAhead
	case r.skip("?>"):
		return atomic
	}
	r.groups++
	require(r.groups <= maxGroups)
	number := r.groups
	return func(p piece) piece { return group(p, number) }
}

// rounds reads how many rounds a repeat has at least, and how many more, and returns false if there is no repeat.
func (r *reader) rounds() (least, more int, ok bool) {
	switch {
	case r.skip("*"):
		return 0, endless, true
	case r.skip("+"):
		return 1, endless, true
	case r.skip("?"):
		return 0, 1, true
	case r.skip("{"):
		least, more = r.counts()
		return least, more, true
	}
	return 0, 0, false
}

// counts reads what stands behind the { of a repeat.
func (r *reader) counts() (least, more int) {
	least = r.count()
	if r.skip(",") {
		if r.skip("}") {
			return least, endless
		}
		more = r.count() - least
	}
	require(r.skip("}") && more >= 0)
	return least, more
}

// count reads a number of rounds.
func (r *reader) count() int {
	behind := strings.TrimLeft(r.rest, "0123456789")
	digits := r.rest[:len(r.rest)-len(behind)]
	r.rest = behind
	count, err := strconv.Atoi(digits)
	require(err == nil && count <= maxRounds && digits == strconv.Itoa(count))
	return count
}
