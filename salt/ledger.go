package salt

import (
	"huer/api"
	"huer/bulk"
)

// ledger is a valid book that is calculated with, and how many hogsheads can have been packed on each day.
type ledger struct {
	api.SaltBook
	casks [api.SaltDays]api.Span
}

// newLedger returns the ledger of a book, and whether the book is valid.
func newLedger(b api.SaltBook) (ledger, bool) {
	if !validNumbers(b) {
		return ledger{}, false
	}
	l := ledger{SaltBook: b}
	for number, day := range b.Days {
		// of a bulk that is not valid, or cannot be true, no hogsheads are told
		casks, e := bulk.Casks(day.Bulk)
		if e != api.OK || casks.High-casks.Low > api.SaltApart {
			return ledger{}, false
		}
		l.casks[number] = casks
	}
	return l, true
}

// end is which end of what is known is meant.
type end struct {
	of func(api.Span) int
}

// lowEnd is the least that can be.
func lowEnd() end { return end{of: func(s api.Span) int { return s.Low }} }

// highEnd is the most that can be.
func highEnd() end { return end{of: func(s api.Span) int { return s.High }} }

// takes returns how many bushels all hogsheads of a day take at one end.
func (l ledger) takes(day int, e end) int { return e.of(l.casks[day]) * e.of(l.Takes) }

// canTake tells whether the hogsheads of a day can take just so many bushels.
func (l ledger) canTake(day, bushels int) bool {
	fewest := (bushels + l.Takes.High - 1) / l.Takes.High // fewer hogsheads do not take so many
	most := bushels / l.Takes.Low                         // more hogsheads do not take so few
	return max(fewest, l.casks[day].Low) <= min(most, l.casks[day].High)
}

// lacks returns how many bushels more must be drawn on each day so that the salt is enough, none of them sooner than it must.
func (l ledger) lacks() draws {
	var result draws
	left := l.Start.Low
	for number, day := range l.Days {
		left += day.Draw - l.takes(number, highEnd())
		result[number] = max(0, -left)
		left += result[number]
	}
	return result
}
