package watch

import (
	"cmp"
	"slices"
)

// place is a column and a row, which need not be in the bay.
type place struct{ column, row int }

// area is all places of the columns and rows from those of near to those of far: a ground, or what a seine incloses.
type area struct{ near, far place }

// holds tells whether a place is in the area.
func (a area) holds(p place) bool {
	return a.near.column <= p.column && p.column <= a.far.column && a.near.row <= p.row && p.row <= a.far.row
}

// shoal is all places in which the shoal can be at a minute, of which there is at least one.
type shoal []place

// canBe tells whether the shoal is in an area in some truth.
func (s shoal) canBe(a area) bool { return slices.ContainsFunc(s, a.holds) }

// surelyIs tells whether the shoal is in an area in each truth.
func (s shoal) surelyIs(a area) bool {
	return !slices.ContainsFunc(s, func(p place) bool { return !a.holds(p) })
}

// in returns whether the shoal is in an area in each truth (2), in some (1), or in none (0): where it surely is it can be, too.
func (s shoal) in(a area) int {
	answer := 0
	for _, is := range [...]func(shoal, area) bool{shoal.canBe, shoal.surelyIs} {
		if is(s, a) {
			answer++
		}
	}
	return answer
}

// greatest returns the greatest of several values.
func greatest[N cmp.Ordered](first N, others ...N) N {
	for _, other := range others {
		first = max(first, other)
	}
	return first
}
