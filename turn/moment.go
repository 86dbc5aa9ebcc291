package turn

import (
	"iter"

	"huer/api"
)

// In how many truths something is so.
const (
	inNone = iota
	inSome
	inEach
)

// moment is a minute that is known only within a span.
type moment api.Span

// just is the moment of a minute that is known.
func just(minute int) moment { return moment{Low: minute, High: minute} }

// valid tells whether both ends are minutes, in their order and not too far apart.
func (m moment) valid() bool {
	return isMinute(m.Low) && isMinute(m.High) && m.Low <= m.High && m.High-m.Low <= api.TurnWithin
}

// soonest is the first minute that it can be.
func (m moment) soonest() int { return m.Low }

// latest is the last minute that it can be.
func (m moment) latest() int { return m.High }

// minutes goes through all minutes that it can be, increasing.
func (m moment) minutes() iter.Seq[int] {
	return func(yield func(int) bool) {
		for after := range m.High - m.Low + 1 {
			if !yield(m.Low + after) {
				return
			}
		}
	}
}

// before tells in how many truths the minute is before another one, of which nothing else is known.
func (m moment) before(other moment) int {
	switch {
	case m.latest() < other.soonest():
		return inEach
	case m.soonest() < other.latest():
		return inSome
	}
	return inNone
}
