package regex

import (
	"cabochon/api"
)

const (
	maxText   = 5000
	maxBudget = 1000000
)

// span is from where to where something matched, -1 and -1 if it matched nothing. It is small, since each state has ten of them, and there can be a million states.
type span [2]int16

// spans are those of the whole and of the groups. Those of groups that are not there are -1 and -1.
type spans [maxGroups + 1]span

func spanOf(from, to int) span {
	return span{int16(from), int16(to)}
}

func (p span) ends() (from, to int) {
	return int(p[0]), int(p[1])
}

// matched tells whether something matched.
func (p span) matched() bool {
	return p[0] >= 0
}

// of returns what matched of a text.
func (p span) of(text string) string {
	if !p.matched() {
		return ""
	}
	return text[p[0]:p[1]]
}

// noSpans returns the spans of a match that has just begun.
func noSpans() spans {
	var none spans
	for i := range none {
		none[i] = spanOf(-1, -1)
	}
	return none
}

// list returns the spans of the whole and of so many groups.
func (p spans) list(groups int) [][2]int {
	var list [][2]int
	for _, g := range p[:groups+1] {
		from, to := g.ends()
		list = append(list, [2]int{from, to})
	}
	return list
}

// state is how far a match has come: the place in the text, what is still to do, and what the groups matched.
type state struct {
	place  int
	todo   *task
	groups spans
}

// task is something to do, and what is to be done next.
type task struct {
	do   way
	next *task
}

// await puts something in front of what is still to do.
func (s *state) await(do way) {
	s.todo = &task{do: do, next: s.todo}
}

// matcher matches a text.
type matcher struct {
	form   form
	text   string
	budget int
	steps  int
	// saved has what else can be tried, the next one last.
	saved []state
}

// prepare returns the matcher of a text.
func prepare(pattern, text string, from, budget int) (*matcher, api.Errno) {
	f, err := read(pattern)
	if err != api.OK {
		return nil, err
	}
	if len(text) > maxText || from < 0 || from > len(text) || budget < 0 || budget > maxBudget {
		return nil, api.ErrArg
	}
	return &matcher{form: f, text: text, budget: budget}, api.OK
}

// save keeps a way to be tried if those before it lead no further.
func (m *matcher) save(s state, w way) {
	s.await(w)
	m.saved = append(m.saved, s)
}

// first goes from a state the first way that leads to its end, and returns where it ends.
func (m *matcher) first(w way, s state) (state, bool) {
	older := len(m.saved)
	s.todo = &task{do: w}
	for s.todo != nil {
		do := s.todo.do
		s.todo = s.todo.next
		if do(m, &s) {
			continue
		}
		last := len(m.saved) - 1
		if last < older {
			return state{}, false
		}
		s = m.saved[last]
		m.saved = m.saved[:last]
	}
	m.saved = m.saved[:older]
	return s, true
}

// find returns the match at the first place, from one to another, at which there is one.
func (m *matcher) find(from, last int) (spans, api.Errno) {
	var found spans
	ok := false
	err := caught(func() { found, ok = m.search(from, last) })
	if err == api.OK && !ok {
		err = api.ErrNone
	}
	return found, err
}

// search does the same, and returns false if there is none.
func (m *matcher) search(from, last int) (spans, bool) {
	ways := m.form.whole.all()
	for place := from; ways != nil && place <= last; place++ {
		if end, ok := m.first(ways, state{place: place, groups: noSpans()}); ok {
			end.groups[0] = spanOf(place, end.place)
			return end.groups, true
		}
	}
	return spans{}, false
}

// every returns all matches of a text from the front.
func every(pattern, text string, budget int) ([]spans, api.Errno) {
	m, err := prepare(pattern, text, 0, budget)
	if err != api.OK {
		return nil, err
	}
	var list []spans
	for from := 0; ; {
		found, err := m.find(from, len(text))
		if err == api.ErrNone {
			return list, api.OK
		}
		if err != api.OK {
			return nil, err
		}
		list = append(list, found)
		begin, end := found[0].ends()
		from = end
		if begin == end {
			from++
		}
	}
}
