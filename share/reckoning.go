package share

import (
	"iter"
	"slices"

	"huer/api"
)

// reckoning is a valid book that is calculated with, and how many shares each holder has.
type reckoning struct {
	api.ShareBook
	has holdings
}

// each goes through the numbers of a span that all rules allow, increasing.
func each(s api.Span, rules ...func(int) bool) iter.Seq[int] {
	return func(yield func(int) bool) {
	next:
		for more := range s.High - s.Low + 1 {
			for _, allows := range rules {
				if !allows(s.Low + more) {
					continue next
				}
			}
			if !yield(s.Low + more) {
				return
			}
		}
	}
}

// seeds goes through all numbers that the drawing can have begun with. (How many pence there are has nothing to do with it.)
func (r reckoning) seeds() iter.Seq[int] { return each(r.Seed, r.fits) }

// right tells whether there is a truth.
func (r reckoning) right() bool {
	for range r.seeds() {
		return true
	}
	return false
}

// fits tells whether all notes are right if the drawing began with a number.
func (r reckoning) fits(seed int) bool { return len(r.falseNotes(seed)) == 0 }

// falseNotes returns the notes that are not right if the drawing began with a number.
func (r reckoning) falseNotes(seed int) []int {
	wins := r.has.drawing(seed)
	var list []int
	for draw, holder := range r.Drawn {
		if holder != api.ShareNone && wins[draw] != (win{draw: draw, holder: holder}) {
			list = append(list, draw)
		}
	}
	return list
}

// wrong returns the first list of the fewest notes without which there is a truth (without all of them there is one).
func (r reckoning) wrong() []int {
	var lists [][]int
	for seed := range each(r.Seed) {
		lists = append(lists, r.falseNotes(seed))
	}
	var best []int
	var leave func(out []int, from, more int) bool
	// leave tries to leave out so many more notes, none of them before one, and tells whether that was enough.
	leave = func(out []int, from, more int) bool {
		if more == 0 {
			best = out
			return isEnough(out, lists)
		}
		for note := range each(api.Span{Low: from, High: len(r.Drawn) - 1}) {
			// without room behind it append cannot write into a list that other tries share
			longer := append(out[:len(out):len(out)], note)
			if leave(longer, note+1, more-1) {
				return true
			}
		}
		return false
	}
	for many := range len(r.Drawn) + 1 {
		if leave(nil, 0, many) {
			break
		}
	}
	return best
}

// isEnough tells whether no note is false any more by one of several lists of false notes, once some are left out.
func isEnough(out []int, lists [][]int) bool {
next:
	for _, list := range lists {
		for _, note := range list {
			if !slices.Contains(out, note) {
				continue next
			}
		}
		return true
	}
	return false
}
