package salt

import (
	"iter"

	"huer/api"
)

// outset is the day before all days, at whose end what is there at first is left.
const outset = -1

// level is how many bushels are left at the end of a day.
type level struct{ day, left int }

// step is how many bushels are there on a day, once some were drawn, and how many of them its hogsheads take.
type step struct{ day, there, takes int }

// used returns how many bushels are used on the day.
func (s step) used() int { return s.takes }

// left returns how many bushels are left at its end.
func (s step) left() int { return s.there - s.takes }

// level returns the level to which the step leads.
func (s step) level() level { return level{day: s.day, left: s.left()} }

// counted returns the level that the count of the day tells, or the one to which a step leads if there is no count.
func (l ledger) counted(s step) level {
	if told := l.Days[s.day].Left; told != api.SaltNone {
		return level{day: s.day, left: told}
	}
	return s.level()
}

// agrees tells whether the count of the day is right by a step.
func (l ledger) agrees(s step) bool { return s.level() == l.counted(s) }

// covers tells whether the count of the day can be right by a step if some bushels go elsewhere besides.
func (l ledger) covers(s step) bool { return s.left() >= l.counted(s).left }

// steps goes through all steps of the day behind a level (there is one) that all rules allow.
func (l ledger) steps(from level, rules ...func(step) bool) iter.Seq[step] {
	return func(yield func(step) bool) {
		day := from.day + 1
		there := from.left + l.Days[day].Draw
		low, high := l.takes(day, lowEnd()), min(l.takes(day, highEnd()), there)
	next:
		for more := range high - low + 1 {
			s := step{day: day, there: there, takes: low + more}
			if !l.canTake(day, s.takes) {
				continue
			}
			for _, allows := range rules {
				if !allows(s) {
					continue next
				}
			}
			if !yield(s) {
				return
			}
		}
	}
}

// isOver tells whether no day comes behind a level.
func (l ledger) isOver(at level) bool { return at.day == len(l.Days)-1 }

// outsets goes through all levels from which the first day can begin.
func (l ledger) outsets(yield func(level) bool) {
	for more := range l.Start.High - l.Start.Low + 1 {
		if !yield(level{day: outset, left: l.Start.Low + more}) {
			return
		}
	}
}
