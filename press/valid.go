package press

import (
	"huer/api"
	"huer/bulk"
)

// limits are from which number to which one a number is.
type limits struct{ from, to int }

// lengths are the limits of how many Gives, Pits and Bails a book has.
var lengths = [...]limits{{1, api.PressLong}, {1, api.PressPits}, {0, api.PressBails}}

// validBook tells whether a book has the form that all functions need, apart from its Bulk.
func validBook(b api.PressBook) bool {
	return validLengths(b) && isOfEach(b.Gives, validGive) && isOfEach(b.Pits, isGallons) && validRuns(b) && validBails(b)
}

// validLengths tells whether a book has neither too few nor too many of all.
func validLengths(b api.PressBook) bool {
	for at, many := range [...]int{len(b.Gives), len(b.Pits), len(b.Bails)} {
		if !isWithin(many, lengths[at].from, lengths[at].to) {
			return false
		}
	}
	return len(b.Runs) == len(b.Bulk.Lots)
}

// validGive tells whether both ends of what a hogshead gives in a day are gallons, in their order and not too far apart.
func validGive(s api.Span) bool {
	return isWithin(s.Low, 0, api.PressGives) && isWithin(s.High, 0, api.PressGives) && isWithin(s.High-s.Low, 0, api.PressWide)
}

// validRuns tells whether all lots run into pits, from days on.
func validRuns(b api.PressBook) bool {
	return isOfEach(b.Runs, func(run api.PressRun) bool { return isSpot(b, spot{pit: run.Pit, day: run.Day}) })
}

// validBails tells whether all bails are valid, each behind those before it.
func validBails(b api.PressBook) bool {
	for number, bail := range b.Bails {
		if !isSpot(b, spotOf(bail)) || !validTold(bail.Told) || !canFollow(b.Bails[:number:number], bail) {
			return false
		}
	}
	return true
}

// validTold tells whether a number can be what was measured.
func validTold(told int) bool { return told == api.PressNone || isGallons(told) }

// canFollow tells whether a bail can come behind other ones: not on a sooner day, and not in the same pit on the same day.
func canFollow(before []api.PressBail, bail api.PressBail) bool {
	return isOfEach(before, func(one api.PressBail) bool { return one.Day <= bail.Day && spotOf(one) != spotOf(bail) })
}

// countsOf returns the hogsheads of each lot of a bulk, and whether it is valid, can be true, and tells enough of them.
func countsOf(b api.BulkBook) ([]api.Span, bool) {
	if is, e := bulk.Right(b); e != api.OK || !is {
		return nil, false
	}
	var counts []api.Span
	for lot := range b.Lots {
		many, e := bulk.Count(b, lot, api.BulkCask)
		if e != api.OK || many.High-many.Low > api.PressApart {
			return nil, false
		}
		counts = append(counts, many)
	}
	return counts, true
}

// isLot tells whether a number is that of a lot of a book.
func isLot(b api.PressBook, lot int) bool { return isWithin(lot, 0, len(b.Bulk.Lots)-1) }

// isPit tells whether a number is that of a pit of a book.
func isPit(b api.PressBook, pit int) bool { return isWithin(pit, 0, len(b.Pits)-1) }

// isSpot tells whether a book has such a pit, and there is such a day.
func isSpot(b api.PressBook, at spot) bool {
	return isPit(b, at.pit) && isWithin(at.day, 0, api.PressDay)
}

// isGallons tells whether a pit can have room for so many gallons.
func isGallons(gallons int) bool { return isWithin(gallons, 0, api.PressRoom) }

// isWithin tells whether a number is from one to another one.
func isWithin(number, from, to int) bool { return from <= number && number <= to }

// isOfEach tells whether something is so of each one of a list.
func isOfEach[T any](all []T, is func(T) bool) bool {
	for _, one := range all {
		if !is(one) {
			return false
		}
	}
	return true
}
