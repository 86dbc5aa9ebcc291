package cry

import "huer/api"

const (
	leastHead = -5 // the columns below which the huers can stand reach beyond the bay
	mostHead  = 15
	mostSeine = 10 // columns and rows of a seine
)

// limits are the least and the greatest value of a number.
type limits struct{ least, most int }

// holds tells whether a number lies between the limits.
func (l limits) holds(number int) bool { return l.least <= number && number <= l.most }

// bookLimits are those of Wide, High, both Heads and Swim.
var bookLimits = [...]limits{{1, api.CryWide}, {1, api.CryHigh}, {leastHead, mostHead}, {leastHead, mostHead}, {0, api.CrySwim}}

// cryLimits are those of Huer, Minute, Kind, and Along and Out of From and To.
var cryLimits = [...]limits{{0, 1}, {0, api.CryLast}, {api.CrySees, api.CryNot}, {-api.CryPoint, api.CryPoint}, {1, api.CryPoint}, {-api.CryPoint, api.CryPoint}, {1, api.CryPoint}}

// validBook tells whether a book has the form that all functions need.
func validBook(b api.CryBook) bool {
	for i, number := range [...]int{b.Wide, b.High, b.Heads[0], b.Heads[1], b.Swim} {
		if !bookLimits[i].holds(number) {
			return false
		}
	}
	return validLand(b) && validCries(b.Cries)
}

// validLand tells whether the land of a book, whose Wide and High are valid, is so.
func validLand(b api.CryBook) bool {
	if len(b.Land) > api.CryLand {
		return false
	}
	var known places
	for _, square := range b.Land {
		if !isSquare(b, square) || known[square] {
			return false
		}
		known[square] = true
	}
	return true
}

// validCries tells whether there are not too many cries, all of them valid.
func validCries(cries []api.CryCry) bool {
	if len(cries) > api.CryMany {
		return false
	}
	for _, cry := range cries {
		if !validCry(cry) {
			return false
		}
	}
	return true
}

// validCry tells whether a cry has its numbers within their limits, and To points where From does or farther to the lesser columns.
func validCry(cry api.CryCry) bool {
	for i, number := range [...]int{cry.Huer, cry.Minute, cry.Kind, cry.From.Along, cry.From.Out, cry.To.Along, cry.To.Out} {
		if !cryLimits[i].holds(number) {
			return false
		}
	}
	return cry.From.Along*cry.To.Out >= cry.From.Out*cry.To.Along
}

// isMinute tells whether a number is one of a minute.
func isMinute(minute int) bool { return 0 <= minute && minute <= api.CryLast }

// isSquare tells whether a number is one of a square of the book's bay.
func isSquare(b api.CryBook, square int) bool { return 0 <= square && square < b.Wide*b.High }

// isSeine tells whether a seine can have so many columns and rows.
func isSeine(wide, high int) bool {
	allowed := limits{least: 1, most: mostSeine}
	return allowed.holds(wide) && allowed.holds(high)
}
