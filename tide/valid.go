package tide

import (
	"huer/api"
	"huer/seine"
)

// validBook tells whether a book has the form that all functions need, and a seine that can be true.
func validBook(b api.TideBook) bool {
	return validNow(b) && validTides(b) && validSpan(b.Gale, b.Now, api.TideHours) &&
		isWithin(b.Most, 0, api.TideLows) && isWithin(b.Rest, 0, api.TideHours) && isTrue(b.Seine)
}

// validNow tells whether the hour of the plan is one, and all notes of the seine are known then.
func validNow(b api.TideBook) bool {
	notes := b.Seine.Notes
	return isWithin(b.Now, 0, api.TideHours) && (len(notes) == 0 || notes[len(notes)-1].Hour <= b.Now)
}

// validTides tells whether there are not too many tides, all of them valid, each later than the one before it.
func validTides(b api.TideBook) bool {
	if len(b.Tides) > api.TideLows {
		return false
	}
	first := b.Now
	for _, low := range b.Tides {
		if !isWithin(low.Hour, first, api.TideHours) || !validSpan(low.Room, 0, api.TideRoom) {
			return false
		}
		first = low.Hour + 1
	}
	return true
}

// validSpan tells whether both ends of a span are from one number to another one, in their order and not too far apart.
func validSpan(s api.Span, from, to int) bool {
	return isWithin(s.Low, from, to) && isWithin(s.High, from, to) && s.Low <= s.High && s.High-s.Low <= api.TideWide
}

// isWithin tells whether a number is from one to another one.
func isWithin(number, from, to int) bool { return from <= number && number <= to }

// isTrue tells whether a book of a seine is valid, and can be true.
func isTrue(b api.SeineBook) bool {
	right, e := seine.Right(b)
	return right && e == api.OK
}
