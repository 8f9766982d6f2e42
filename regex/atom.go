package regex

import (
	"strings"
)

// asked returns the atom that takes a step, and then goes on if it holds.
func asked(holds way) piece {
	return piece{asks: true, rest: func(m *matcher, s *state) bool {
		m.step()
		return holds(m, s)
	}}
}

// oneOf returns the atom that matches a byte of a set.
func oneOf(bytes set) piece {
	return asked(func(m *matcher, s *state) bool {
		if s.place == len(m.text) || !bytes[m.text[s.place]] {
			return false
		}
		s.place++
		return true
	})
}

// back returns the atom that matches what a group matched last.
func back(number int) piece {
	return asked(func(m *matcher, s *state) bool {
		g := s.groups[number]
		text := g.of(m.text)
		if !g.matched() || !strings.HasPrefix(m.text[s.place:], text) {
			return false
		}
		s.place += len(text)
		return true
	})
}

// border returns the atom that asks for a place alone.
func border(holds func(text string, place int) bool) piece {
	return asked(func(m *matcher, s *state) bool {
		return holds(m.text, s.place)
	})
}

func isLineStart(text string, place int) bool {
	return place == 0 || text[place-1] == '\n'
}

func isLineEnd(text string, place int) bool {
	return place == len(text) || text[place] == '\n'
}

func isTextStart(_ string, place int) bool {
	return place == 0
}

func isTextEnd(text string, place int) bool {
	return place == len(text)
}

func isWordBorder(text string, place int) bool {
	before := place > 0 && isWord(text[place-1])
	behind := place < len(text) && isWord(text[place])
	return before != behind
}

func isNoWordBorder(text string, place int) bool {
	return !isWordBorder(text, place)
}
