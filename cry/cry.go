// Package cry is layer 1: where in a bay a shoal can be, by what both huers cried. See shared/doc/01-cry.md.
package cry

import "huer/api"

// Check returns ErrCry unless the book is valid.
func Check(b api.CryBook) api.Errno {
	if !validBook(b) {
		return api.ErrCry
	}
	return api.OK
}

// Seen returns all squares that are between the directions of a cry, whatever was cried of them.
func Seen(b api.CryBook, cry int) ([]int, api.Errno) {
	if e := Check(b); e != api.OK {
		return nil, e
	}
	if cry < 0 || cry >= len(b.Cries) {
		return nil, api.ErrCryAsk
	}
	return newBay(b).seen(b.Cries[cry]).list(), api.OK
}

// Right reports whether a book can be true.
func Right(b api.CryBook) (bool, api.Errno) {
	if e := Check(b); e != api.OK {
		return false, e
	}
	return newBay(b).right(), api.OK
}

// Where returns all squares in which the shoal can be at a minute.
func Where(b api.CryBook, minute int) ([]int, api.Errno) {
	_, c, e := answer(b, isMinute(minute))
	if e != api.OK {
		return nil, e
	}
	return c[minute].list(), api.OK
}

// Can reports whether the shoal can be in a square at a minute.
func Can(b api.CryBook, minute, square int) (bool, api.Errno) {
	_, c, e := answer(b, isMinute(minute) && isSquare(b, square))
	if e != api.OK {
		return false, e
	}
	return c[minute][square], api.OK
}

// Apart returns how far the squares of a minute are apart.
func Apart(b api.CryBook, minute int) (int, api.Errno) {
	y, c, e := answer(b, isMinute(minute))
	if e != api.OK {
		return 0, e
	}
	return y.bounds(c[minute]).apart(), api.OK
}

// Shot returns the first square at which a seine surely incloses the shoal at a minute.
func Shot(b api.CryBook, minute, wide, high int) (int, api.Errno) {
	y, c, e := answer(b, isMinute(minute) && isSeine(wide, high))
	if e != api.OK {
		return 0, e
	}
	square, ok := y.shot(c[minute], wide, high)
	if !ok {
		return 0, api.ErrNone
	}
	return square, api.OK
}

// Soon returns the first minute at which a seine surely incloses the shoal, and the first square for it.
func Soon(b api.CryBook, wide, high int) (minute, square int, e api.Errno) {
	y, c, e := answer(b, isSeine(wide, high))
	if e != api.OK {
		return 0, 0, e
	}
	for minute := range minutes {
		if square, ok := y.shot(c[minute], wide, high); ok {
			return minute, square, api.OK
		}
	}
	return 0, 0, api.ErrNone
}

// Fits reports whether a book with a further cry can be true.
func Fits(b api.CryBook, cry api.CryCry) (bool, api.Errno) {
	if e := Check(b); e != api.OK {
		return false, e
	}
	if !validCry(cry) {
		return false, api.ErrCryAsk
	}
	// without room behind the cries append cannot write into the memory of the caller
	known := b.Cries[:len(b.Cries):len(b.Cries)]
	return newBay(b).with(append(known, cry)).right(), api.OK
}

// Wrong returns the first list of the fewest cries without which a book can be true.
func Wrong(b api.CryBook) ([]int, api.Errno) {
	if e := Check(b); e != api.OK {
		return nil, e
	}
	y := newBay(b)
	for many := range len(b.Cries) + 1 {
		if dropped, ok := y.drop(many); ok {
			return dropped, api.OK
		}
	}
	return nil, api.ErrCryFalse
}

// answer returns a book's bay and where the shoal can be in it, or the error of a question that it cannot answer.
func answer(b api.CryBook, asked bool) (bay, chart, api.Errno) {
	if e := Check(b); e != api.OK {
		return bay{}, chart{}, e
	}
	if !asked {
		return bay{}, chart{}, api.ErrCryAsk
	}
	y := newBay(b)
	c := y.truths()
	// in a truth the shoal is somewhere at each minute, so one of them tells
	if c[0] == (places{}) {
		return bay{}, chart{}, api.ErrCryFalse
	}
	return y, c, api.OK
}
