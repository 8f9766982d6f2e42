package regex

// way goes on with a state, and returns false if it leads no further. It saves with m what else can be tried.
type way func(m *matcher, s *state) bool

// piece is a part of a pattern, as the ways through it.
//
// Rounds within rounds can be empty 100^10 times without a step, so that no budget ends them: `(?:(?:|a){100}){100}` and so on. What takes no step is the same wherever the text is matched, and so it is found out when the pattern is read. A first way without a step is gone but once, however many rounds of it there are.
type piece struct {
	// once is the first way if it takes no step, and nil otherwise. Nothing else can be tried in it, and to go it again at the same place changes nothing.
	once way
	// rest is all other ways, in their order, and nil if there are none.
	rest way
	// asks tells that rest takes a step at least if it is tried to its end.
	asks bool
}

// goOn is the way through nothing.
func goOn(*matcher, *state) bool {
	return true
}

// giveUp is no way.
func giveUp(*matcher, *state) bool {
	return false
}

// nothing returns the piece that matches an empty text without a step.
func nothing() piece {
	return piece{once: goOn}
}

// isNone tells that there is no way through p, and that it takes no step to find that out.
func (p piece) isNone() bool {
	return p.once == nil && p.rest == nil
}

// all returns all ways through p, in their order, and nil if there are none.
func (p piece) all() way {
	return orElse(p.once, p.rest, p.asks)
}

// orElse returns the ways of a, behind them those of b; asks tells that one of them asks.
func orElse(a, b way, asks bool) way {
	switch {
	case a == nil:
		return b
	case b == nil:
		return a
	case asks:
		return func(m *matcher, s *state) bool {
			m.save(*s, b)
			return a(m, s)
		}
	}
	return func(m *matcher, s *state) bool {
		spent := m.steps
		m.save(*s, func(m *matcher, s *state) bool {
			// If what follows a failed without a step, it does so behind b, too. Of such ways there can be 2^100.
			return m.steps > spent && b(m, s)
		})
		return a(m, s)
	}
}

// then returns the ways of a, each with those of b behind it.
func then(a, b way) way {
	if a == nil || b == nil {
		return nil
	}
	return func(m *matcher, s *state) bool {
		s.await(b)
		return a(m, s)
	}
}

// row returns p with q behind it.
func row(p, q piece) piece {
	behind := q.all()
	if behind == nil && p.asks {
		behind = giveUp // the steps of p are taken all the same
	}
	asks := p.asks || q.asks
	rest := orElse(then(p.once, q.rest), then(p.rest, behind), asks)
	return piece{once: then(p.once, q.once), rest: rest, asks: asks && rest != nil}
}

// either returns the alternatives p and q.
func either(p, q piece) piece {
	if p.isNone() {
		return q
	}
	asks := p.asks || q.asks
	return piece{once: p.once, rest: orElse(p.rest, q.all(), asks), asks: asks}
}

// group returns p as the group with a number.
func group(p piece, number int) piece {
	noted := func(w way) way {
		if w == nil {
			return nil
		}
		return func(m *matcher, s *state) bool {
			from := s.place
			s.await(func(_ *matcher, s *state) bool {
				s.groups[number] = spanOf(from, s.place)
				return true
			})
			return w(m, s)
		}
	}
	return piece{once: noted(p.once), rest: noted(p.rest), asks: p.asks}
}

// atomic returns the first way of p alone.
func atomic(p piece) piece {
	return firstOf(p, true)
}

// ahead returns the piece that looks ahead for p.
func ahead(p piece) piece {
	return firstOf(p, false)
}

// firstOf returns the first way of p alone, which goes on where p ends if it moves.
func firstOf(p piece, moves bool) piece {
	if p.once != nil || p.isNone() {
		return piece{once: p.once}
	}
	return piece{asks: true, rest: func(m *matcher, s *state) bool {
		end, ok := m.first(p.rest, *s)
		if !ok {
			return false
		}
		s.groups = end.groups
		if moves {
			s.place = end.place
		}
		return true
	}}
}

// notAhead returns the piece that looks ahead for no p.
func notAhead(p piece) piece {
	switch {
	case p.isNone():
		return nothing()
	case p.once != nil:
		return piece{}
	}
	return piece{asks: true, rest: func(m *matcher, s *state) bool {
		_, ok := m.first(p.rest, *s)
		return !ok
	}}
}

// repeat returns at least so many rounds of p, and some more, or without an end.
func repeat(p piece, least, more int, lazy bool) piece {
	whole := upTo(p, more, lazy)
	for range least {
		whole = row(p, whole)
		if p.once != nil {
			whole.once = p.once // all rounds in one
		}
	}
	return whole
}

// upTo returns no round of p up to so many, or without an end.
func upTo(p piece, most int, lazy bool) piece {
	if most == endless {
		var again way
		whole := optional(p, func(m *matcher, s *state) bool { return again(m, s) }, lazy)
		again = whole.all()
		return whole
	}
	whole := nothing()
	for range most {
		whole = optional(p, whole.all(), lazy)
	}
	return whole
}

// optional returns a round of p with more rounds behind it, or none.
func optional(p piece, more way, lazy bool) piece {
	round := piece{once: p.once, rest: inRound(p.rest, more), asks: p.asks}
	if lazy {
		return either(nothing(), round)
	}
	return either(round, nothing())
}

// inRound returns the ways of w with more behind those that are not empty.
func inRound(w, more way) way {
	if w == nil {
		return nil
	}
	return func(m *matcher, s *state) bool {
		from := s.place
		s.await(func(m *matcher, s *state) bool {
			return s.place == from || more(m, s)
		})
		return w(m, s)
	}
}
