package turn

import (
	"iter"

	"huer/api"
)

// truth is the true minutes of all bounds.
type truth [api.TurnBounds]int

// noBounds is the truth without bounds: the minutes of those that there are not never come.
var noBounds = truth{api.TurnMinutes, api.TurnMinutes, api.TurnMinutes, api.TurnMinutes}

// turn returns the turn at a minute.
func (t truth) turn(minute int) int {
	past := 0
	for _, bound := range t {
		if bound <= minute {
			past++
		}
	}
	return past
}

// spell is a turn of a station.
type spell struct{ station, turn int }

// known is what is known of all bounds: the truths in which each is as soon, and as late, as it can be.
type known struct{ soon, late truth }

// knownOf returns what some bounds tell.
func knownOf(bounds []api.Span) known {
	ends := [...]func(moment) int{moment.soonest, moment.latest}
	truths := [len(ends)]truth{noBounds, noBounds}
	for i, end := range ends {
		for number, bound := range bounds {
			truths[i][number] = end(moment(bound))
		}
	}
	return known{soon: truths[0], late: truths[1]}
}

// turns returns the least and the greatest turn that there is at a moment. As no two bounds can be at one minute, turns change one by one, so each turn between both is one, too.
func (k known) turns(at moment) api.Span {
	return api.Span{Low: k.late.turn(at.soonest()), High: k.soon.turn(at.latest())}
}

// spells goes through all turns that there are at a station, at a moment.
func (k known) spells(station int, at moment) iter.Seq[spell] {
	return func(yield func(spell) bool) {
		turns := k.turns(at)
		s, last := spell{station, turns.Low}, spell{station, turns.High}
		for yield(s) && s != last {
			s.turn++
		}
	}
}
