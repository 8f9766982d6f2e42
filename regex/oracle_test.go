package regex

import (
	"cabochon/api"
	"math/rand"
	"slices"
	"strings"
	"testing"
)

// tree is a pattern in a second reading of the chapter.
type tree struct {
	// kind is atom, row, or, repeat, or what opens a group: ( (?: (?= (?! (?>
	kind string
	kids []*tree
	// asks returns how many bytes an atom matches at a place, -1 for no match.
	asks func(t *trial, at int) int
	// number is that of a group.
	number      int
	least, most int // most -1: none
	lazy        bool
}

// sight reads a pattern by its index, and has the reasons why it is none.
type sight struct {
	pattern         string
	at, groups, ref int
	bad             bool
}

// seen returns a pattern's tree and the number of its groups, and false if it is malformed.
func seen(pattern string) (*tree, int, bool) {
	s := &sight{pattern: pattern, bad: len(pattern) > 300}
	root := s.alternatives(0)
	s.bad = s.bad || s.at < len(pattern) || s.ref > s.groups
	return root, s.groups, !s.bad
}

// peek returns the next byte, 0 at the end.
func (s *sight) peek() byte {
	if s.at < len(s.pattern) {
		return s.pattern[s.at]
	}
	return 0
}

func (s *sight) take() byte {
	c := s.peek()
	s.bad = s.bad || s.at >= len(s.pattern)
	s.at++
	return c
}

func (s *sight) comes(what string) bool {
	if s.at <= len(s.pattern) && strings.HasPrefix(s.pattern[s.at:], what) {
		s.at += len(what)
		return true
	}
	return false
}

func (s *sight) alternatives(depth int) *tree {
	s.bad = s.bad || depth > 10
	or := &tree{kind: "or"}
	line := &tree{kind: "row"}
	for !s.bad && s.at < len(s.pattern) && s.peek() != ')' {
		if s.comes("|") {
			or.kids = append(or.kids, line)
			line = &tree{kind: "row"}
		} else {
			line.kids = append(line.kids, s.piece(depth))
		}
	}
	or.kids = append(or.kids, line)
	return or
}

func (s *sight) piece(depth int) *tree {
	for _, border := range []string{"^", "$", `\A`, `\z`, `\b`, `\B`} {
		if s.comes(border) {
			return &tree{kind: "atom", asks: func(t *trial, at int) int { return t.border(border, at) }}
		}
	}
	atom := s.atom(depth)
	whole := s.repeat(atom)
	if whole == nil {
		return atom
	}
	if s.comes("?") {
		whole.lazy = true
	} else if s.comes("+") {
		return &tree{kind: "(?>", kids: []*tree{whole}}
	}
	return whole
}

func (s *sight) repeat(atom *tree) *tree {
	r := &tree{kind: "repeat", kids: []*tree{atom}, most: -1}
	switch {
	case s.comes("*"):
	case s.comes("+"):
		r.least = 1
	case s.comes("?"):
		r.most = 1
	case s.comes("{"):
		r.least = s.number()
		r.most = r.least
		if s.comes(",") {
			if r.most = -1; s.peek() != '}' {
				r.most = s.number()
				s.bad = s.bad || r.least > r.most
			}
		}
		s.bad = s.bad || s.take() != '}'
	default:
		return nil
	}
	return r
}

func (s *sight) number() int {
	n, from := 0, s.at
	for c := s.peek(); c >= '0' && c <= '9' && n <= 100; c = s.peek() {
		n = n*10 + int(s.take()-'0')
	}
	s.bad = s.bad || s.at == from || n > 100 || s.pattern[from] == '0' && s.at-from > 1
	return n
}

func (s *sight) atom(depth int) *tree {
	if s.comes("(") {
		return s.group(depth)
	}
	if c := s.peek(); c == '\\' && s.at+1 < len(s.pattern) && strings.IndexByte("123456789", s.pattern[s.at+1]) >= 0 {
		n := int(s.pattern[s.at+1] - '0')
		s.at += 2
		s.ref = max(s.ref, n)
		return &tree{kind: "atom", asks: func(t *trial, at int) int { return t.back(n, at) }}
	}
	var holds func(c byte) bool
	if s.comes("[") {
		holds = s.class()
	} else if s.comes(".") {
		holds = func(c byte) bool { return c != '\n' }
	} else {
		s.bad = s.bad || strings.IndexByte(`^$|?*+()[]{}`, s.peek()) >= 0 && s.at < len(s.pattern)
		holds, _, _ = s.one()
	}
	return &tree{kind: "atom", asks: func(t *trial, at int) int {
		if at < len(t.text) && holds(t.text[at]) {
			return 1
		}
		return -1
	}}
}

// one reads a byte, or an escape; of a single byte it returns this one and true.
func (s *sight) one() (func(byte) bool, byte, bool) {
	c := s.take()
	if c == '\\' {
		c = s.take()
		switch {
		case c == 'n':
			c = '\n'
		case c == 't':
			c = '\t'
		case strings.IndexByte("dDwWsS", c) >= 0:
			return many(c), 0, false
		default:
			s.bad = s.bad || strings.IndexByte(`\^$.|?*+()[]{}-`, c) < 0
		}
	}
	return func(b byte) bool { return b == c }, c, true
}

// many returns what an escape of many bytes stands for.
func many(letter byte) func(byte) bool {
	list := "0123456789"
	switch letter | 32 {
	case 'w':
		list += "_abcdefghijklmnopqrstuvwxyzABCDEFGHIJKLMNOPQRSTUVWXYZ"
	case 's':
		list = " \t\n"
	}
	return func(b byte) bool { return (strings.IndexByte(list, b) >= 0) == (letter >= 'a') }
}

func (s *sight) class() func(byte) bool {
	wanted := !s.comes("^")
	var members []func(byte) bool
	for first := true; !s.bad && (first || s.peek() != ']'); first = false {
		if !first && s.peek() == '-' && s.at+1 < len(s.pattern) && s.pattern[s.at+1] != ']' {
			s.bad = true
		}
		holds, low, single := s.one()
		if single && s.peek() == '-' && s.at+1 < len(s.pattern) && s.pattern[s.at+1] != ']' {
			s.at++
			_, high, one := s.one()
			s.bad = s.bad || !one || high < low
			holds = func(b byte) bool { return low <= b && b <= high }
		}
		members = append(members, holds)
	}
	s.bad = s.bad || s.take() != ']'
	return func(b byte) bool {
		return slices.ContainsFunc(members, func(holds func(byte) bool) bool { return holds(b) }) == wanted
	}
}

func (s *sight) group(depth int) *tree {
	g := &tree{kind: "("}
	for _, open := range []string{"?:", "?=", "?!", "?>"} {
		if g.kind == "(" && s.comes(open) {
			g.kind += open
		}
	}
	if g.kind == "(" {
		s.groups++
		g.number = s.groups
		s.bad = s.bad || s.groups > 9
	}
	g.kids = []*tree{s.alternatives(depth + 1)}
	s.bad = s.bad || s.take() != ')'
	return g
}

// trial is a text that is matched by trees, with functions for what follows.
type trial struct {
	text          string
	steps, budget int
	// moves counts what takes no step, too; more of it than patience is thrown.
	moves  int
	groups [10][2]int
}

const patience = 20000

func (t *trial) border(which string, at int) int {
	isWord := func(i int) bool { return i >= 0 && i < len(t.text) && many('w')(t.text[i]) }
	begins, ends := at == 0, at == len(t.text)
	holds := map[string]bool{
		"^": begins || t.text[at-1] == '\n', "$": ends || t.text[at] == '\n', `\A`: begins, `\z`: ends,
		`\b`: isWord(at-1) != isWord(at), `\B`: isWord(at-1) == isWord(at),
	}
	if holds[which] {
		return 0
	}
	return -1
}

func (t *trial) back(n, at int) int {
	g := t.groups[n]
	if g[0] < 0 || !strings.HasPrefix(t.text[at:], t.text[g[0]:g[1]]) {
		return -1
	}
	return g[1] - g[0]
}

// run tries all ways of n until what follows one of them is true.
func (t *trial) run(n *tree, at int, follows func(int) bool) bool {
	if t.moves++; t.moves > patience {
		panic("patience")
	}
	kept := t.groups
	switch n.kind {
	case "atom":
		if t.steps++; t.steps > t.budget {
			panic(api.ErrBudget)
		}
		width := n.asks(t, at)
		return width >= 0 && follows(at+width)
	case "row":
		return t.row(n.kids, at, follows)
	case "or":
		return slices.ContainsFunc(n.kids, func(kid *tree) bool { return t.run(kid, at, follows) })
	case "(?:":
		return t.run(n.kids[0], at, follows)
	case "(":
		return t.run(n.kids[0], at, func(end int) bool {
			kept := t.groups[n.number]
			t.groups[n.number] = [2]int{at, end}
			if follows(end) {
				return true
			}
			t.groups[n.number] = kept
			return false
		})
	case "repeat":
		return t.rounds(n, at, 0, false, follows)
	}
	end := at
	ok := t.run(n.kids[0], at, func(e int) bool { end = e; return true })
	if n.kind != "(?>" {
		end = at
	}
	if n.kind == "(?!" {
		t.groups = kept
		ok = !ok
	}
	if ok && follows(end) {
		return true
	}
	t.groups = kept
	return false
}

func (t *trial) row(kids []*tree, at int, follows func(int) bool) bool {
	if len(kids) == 0 {
		return follows(at)
	}
	return t.run(kids[0], at, func(end int) bool { return t.row(kids[1:], end, follows) })
}

// rounds tries what can be behind so many rounds, the last of which was empty or not.
func (t *trial) rounds(n *tree, at, done int, wasEmpty bool, follows func(int) bool) bool {
	more := func() bool {
		if done == n.most || done > n.least && wasEmpty {
			return false
		}
		return t.run(n.kids[0], at, func(end int) bool { return t.rounds(n, end, done+1, end == at, follows) })
	}
	switch {
	case done < n.least:
		return more()
	case n.lazy:
		return follows(at) || more()
	}
	return more() || follows(at)
}

// outcome is what a second reading says of a Match.
type outcome struct {
	groups [][2]int
	steps  int
	err    api.Errno
}

// told returns what a second reading says of a Match, and false if it loses its patience.
func told(pattern, text string, from, last, budget int) (o outcome, ok bool) {
	root, groups, ok := seen(pattern)
	if !ok {
		return outcome{err: api.ErrForm}, true
	}
	t := &trial{text: text, budget: budget}
	defer func() {
		switch thrown := recover().(type) {
		case api.Errno:
			o, ok = outcome{err: thrown}, true
		case string:
			o, ok = outcome{}, false
		}
	}()
	for place := from; place <= last; place++ {
		for i := range t.groups {
			t.groups[i] = [2]int{-1, -1}
		}
		if t.run(root, place, func(end int) bool { t.groups[0] = [2]int{place, end}; return true }) {
			return outcome{groups: slices.Clone(t.groups[:groups+1]), steps: t.steps}, true
		}
	}
	return outcome{err: api.ErrNone}, true
}

// patterns makes patterns at random, most of them well-formed.
type patterns struct {
	*rand.Rand
	groups int
}

func (p *patterns) pick(list ...string) string {
	return list[p.Intn(len(list))]
}

func (p *patterns) alternatives(depth int) string {
	s := p.row(depth)
	for p.Intn(3) == 0 {
		s += "|" + p.row(depth)
	}
	return s
}

func (p *patterns) row(depth int) string {
	s := ""
	for p.Intn(5) > 1 {
		s += p.piece(depth)
	}
	return s
}

func (p *patterns) piece(depth int) string {
	if p.Intn(6) == 0 {
		return p.pick("^", "$", `\A`, `\z`, `\b`, `\B`)
	}
	s := p.pick("a", "a", "b", "b", ".", "[ab]", "[^a]", `\n`, `\w`, `\S`)
	if depth > 0 && p.Intn(2) == 0 {
		open := p.pick("(", "(", "(", "(?:", "(?:", "(?:", "(?=", "(?!", "(?>")
		if open == "(" {
			p.groups++
		}
		s = open + p.alternatives(depth-1) + ")"
	} else if p.groups > 0 && p.Intn(5) == 0 {
		s = `\` + string(rune('1'+p.Intn(min(p.groups, 9))))
	}
	if p.Intn(2) == 0 {
		return s
	}
	return s + p.pick("*", "*", "+", "?", "{0}", "{1}", "{2}", "{3}", "{0,1}", "{1,2}", "{2,3}", "{0,}", "{1,}", "{2,}") + p.pick("", "", "", "?", "+")
}

func (p *patterns) text() string {
	s := ""
	for p.Intn(6) > 0 {
		s += p.pick("a", "a", "a", "b", "b", "\n", "\xFF")
	}
	return s
}

// P7.2: random patterns, held against the second reading with all budgets that matter.
func TestAgainstSecondReading(t *testing.T) {
	p := &patterns{Rand: rand.New(rand.NewSource(7))}
	given := map[api.Errno]int{}
	for range 60000 {
		p.groups = 0
		pattern, text := p.alternatives(4), p.text()
		from := p.Intn(len(text) + 1)
		budget := 5000
		if p.Intn(10) == 0 {
			budget = p.Intn(10)
		}
		want, ok := told(pattern, text, from, len(text), budget)
		if !ok {
			continue
		}
		given[want.err]++
		got, err := Match(pattern, text, from, budget)
		if err != want.err || got.Steps != want.steps || !slices.Equal(got.Groups, want.groups) {
			t.Fatalf("%q in %q from %d: %v, error %d, not %v", pattern, text, from, got, err, want)
		}
		if err == api.OK && got.Steps > 0 {
			if _, err := Match(pattern, text, from, got.Steps-1); err != api.ErrBudget {
				t.Fatalf("%q in %q from %d, a step less: error %d", pattern, text, from, err)
			}
			if again, err := Match(pattern, text, from, got.Steps); err != api.OK || again.Steps != got.Steps || !slices.Equal(got.Groups, again.Groups) {
				t.Fatalf("%q in %q from %d, just so many steps: %v, error %d", pattern, text, from, again, err)
			}
		}
	}
	for _, err := range []api.Errno{api.OK, api.ErrNone, api.ErrForm, api.ErrBudget} {
		if given[err] < 300 {
			t.Errorf("error %d came but %d times", err, given[err])
		}
	}
}

// P7.1: random strings of what patterns are made of, most of them malformed, held against the second reading.
func TestFormsAgainstSecondReading(t *testing.T) {
	p := &patterns{Rand: rand.New(rand.NewSource(17))}
	wellFormed := 0
	for range 200000 {
		pattern := ""
		for range p.Intn(9) {
			pattern += p.pick(`\`, "^", "$", ".", "|", "?", "*", "+", "(", ")", "[", "]", "{", "}", "-", ",", "1", "0", "2", "a", "b", "n", "d", "A", ":", "=", "!", ">", "(?:", "{1,", "[a", "[^", "(a)", "b-", `\1`, `\d`, "\xFF")
		}
		_, groups, ok := seen(pattern)
		if ok {
			wellFormed++
		} else {
			groups = 0
		}
		got, err := Groups(pattern)
		if ok != (err == api.OK) || got != groups || Check(pattern) != err {
			t.Fatalf("%q: %d groups, error %d, not %d groups, %t", pattern, got, err, groups, ok)
		}
	}
	if wellFormed < 20000 {
		t.Errorf("but %d of them are patterns", wellFormed)
	}
}
