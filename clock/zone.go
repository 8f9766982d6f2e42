package clock

import (
	"slices"
)

const (
	firstMoment = -100000000000
	lastMoment  = 100000000000
	// maxOffset is the greatest offset on both sides.
	maxOffset  = 86400
	maxChanges = 40
)

func isMoment(moment int) bool {
	return within(moment, firstMoment, lastMoment)
}

func isOffset(offset int) bool {
	return within(offset, -maxOffset, maxOffset)
}

// isZone tells whether z is a zone. No two of its changes are at one moment.
func isZone(z Zone) bool {
	if !isOffset(z.Offset) || len(z.Changes) > maxChanges {
		return false
	}
	least := firstMoment
	for _, c := range z.Changes {
		if !within(c.At, least, lastMoment) || !isOffset(c.Offset) {
			return false
		}
		least = c.At + 1
	}
	return true
}

// period is the moments, from the first to the last one, for which an offset holds, and the offset just before them. Of the first period this is its own one.
type period struct {
	first, last    int
	before, offset int
}

// periods returns the periods of a zone in their order. The first one has no moments if a change is at the first moment.
func periods(z Zone) []period {
	list := make([]period, 0, len(z.Changes)+1)
	next := period{first: firstMoment, before: z.Offset, offset: z.Offset}
	for _, c := range z.Changes {
		next.last = c.At - 1
		list = append(list, next)
		next = period{first: c.At, before: next.offset, offset: c.Offset}
	}
	next.last = lastMoment
	return append(list, next)
}

// find returns the first period of a zone of which what is asked is true, and false if there is none.
func find(z Zone, asked func(period) bool) (period, bool) {
	list := periods(z)
	i := slices.IndexFunc(list, asked)
	if i < 0 {
		return period{}, false
	}
	return list[i], true
}

func (p period) has(moment int) bool {
	return within(moment, p.first, p.last)
}

// shows tells whether a moment of p has a local date, given by its seconds.
func (p period) shows(local int) bool {
	return p.has(local - p.offset)
}

// skips tells whether the change with which p begins passes over a local date, given by its seconds.
func (p period) skips(local int) bool {
	return p.first+p.before <= local && local < p.first+p.offset
}
