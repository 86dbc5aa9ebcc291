package salt

import "huer/api"

// limits are from which number to which one the ends of a span are, and how far apart at most.
type limits struct{ from, to, apart int }

// bookLimits are those of what is there at first, and of what a hogshead takes.
var bookLimits = [...]limits{{0, api.SaltDraw, api.SaltFirst}, {1, api.SaltTakes, api.SaltWide}}

// let tells whether both ends of a span are within the limits, and in their order.
func (x limits) let(s api.Span) bool {
	return isWithin(s.Low, x.from, x.to) && isWithin(s.High, x.from, x.to) && s.Low <= s.High && s.High-s.Low <= x.apart
}

// validNumbers tells whether all numbers of a book, but those of its bulks, are within their limits.
func validNumbers(b api.SaltBook) bool {
	for at, s := range [...]api.Span{b.Start, b.Takes} {
		if !bookLimits[at].let(s) {
			return false
		}
	}
	return validDays(b.Days)
}

// validDays tells whether there are neither too many days nor none, and all that was drawn and counted on them can be.
func validDays(days []api.SaltDay) bool {
	if !isWithin(len(days), 1, api.SaltDays) {
		return false
	}
	for _, day := range days {
		if !isWithin(day.Draw, 0, api.SaltDraw) || day.Left != api.SaltNone && !isWithin(day.Left, 0, api.SaltLeft) {
			return false
		}
	}
	return true
}

// isWithin tells whether a number is from one to another one.
func isWithin(number, from, to int) bool { return from <= number && number <= to }
