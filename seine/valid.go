package seine

import "huer/api"

// mostMany is the greatest number that a note of each kind can have.
var mostMany = [...]int{
	api.SeineTuck:   api.SeineFish,
	api.SeineBreach: api.SeineRate,
	api.SeineMend:   0,
	api.SeineDogs:   api.SeineFish,
	api.SeineSound:  api.SeineFish,
}

// validBook tells whether a book has the form that all functions need.
func validBook(b api.SeineBook) bool {
	return validSpan(b.Inclosed, api.SeineFish) && validNotes(b.Notes)
}

// validNotes tells whether there are not too many notes, all of them valid, none sooner than the one before it.
func validNotes(notes []api.SeineNote) bool {
	if len(notes) > api.SeineNotes {
		return false
	}
	past := 0
	for _, note := range notes {
		if !validNote(note) || note.Hour < past {
			return false
		}
		past = note.Hour
	}
	return true
}

// validNote tells whether a note has its numbers within their limits.
func validNote(note api.SeineNote) bool {
	return isWithin(note.Kind, len(mostMany)-1) && isHour(note.Hour) && validSpan(note.Many, mostMany[note.Kind])
}

// validSpan tells whether both ends of a span are from 0 to a greatest number, in their order and not too far apart.
func validSpan(s api.Span, most int) bool {
	return isWithin(s.Low, most) && isWithin(s.High, most) && s.Low <= s.High && s.High-s.Low <= api.SeineWide
}

// isWithin tells whether a number is from 0 to a greatest one.
func isWithin(number, most int) bool { return 0 <= number && number <= most }

// isHour tells whether a number is one of an hour.
func isHour(hour int) bool { return isWithin(hour, api.SeineHours) }

// isFish tells whether a seine can hold so many baskets at all.
func isFish(many int) bool { return isWithin(many, api.SeineFish) }
