package press

import (
	"cmp"
	"slices"

	"huer/api"
)

// Whether a pit runs over.
const (
	never = iota
	perhaps
	surely
)

// mill is a valid book that is calculated with, the hogsheads that each lot can have by its Bulk, and the numbers of the bails by where and when they were.
type mill struct {
	api.PressBook
	counts []api.Span
	bailed map[spot]int
}

// newMill returns the mill of a book, and whether the book is valid.
func newMill(b api.PressBook) (mill, bool) {
	if !validBook(b) {
		return mill{}, false
	}
	counts, is := countsOf(b.Bulk)
	if !is {
		return mill{}, false
	}
	m := mill{PressBook: b, counts: counts, bailed: map[spot]int{}}
	for number, bail := range b.Bails {
		m.bailed[spotOf(bail)] = number
	}
	return m, true
}

// pressings goes through all that lots can have, whatever was measured.
func (m mill) pressings(yield func(pressing) bool) {
	var choose func(lot int, chosen casks) bool
	// choose goes through all hogsheads of a lot, and of those behind it, and tells whether to go on.
	choose = func(lot int, chosen casks) bool {
		if lot == len(m.counts) {
			return yield(pressing{mill: m, casks: chosen})
		}
		many := m.counts[lot]
		for more := range many.High - many.Low + 1 {
			chosen[lot] = many.Low + more
			if !choose(lot+1, chosen) {
				return false
			}
		}
		return true
	}
	choose(0, casks{})
}

// truths goes through all that lots have in a truth.
func (m mill) truths(yield func(pressing) bool) {
next:
	for p := range m.pressings {
		isRight := p.isRight
		for _, bail := range m.Bails {
			if !isRight(bail) {
				continue next
			}
		}
		if !yield(p) {
			return
		}
	}
}

// right tells whether there is a truth.
func (m mill) right() bool {
	for range m.truths {
		return true
	}
	return false
}

// told returns what there is by the hogsheads of the lots, at least and at most of all truths. (There is one, and no number is below 0.)
func (m mill) told(number func(pressing) api.Span) api.Span {
	result := api.Span{Low: endless}
	for p := range m.truths {
		s := number(p)
		result.Low = min(result.Low, s.Low)
		result.High = max(result.High, s.High)
	}
	return result
}

// hogsheads returns those of a lot.
func (m mill) hogsheads(lot int) api.Span {
	return m.told(func(p pressing) api.Span { return api.Span{Low: p.casks[lot], High: p.casks[lot]} })
}

// yields returns what the hogsheads of a lot give on all days on which it is pressed.
func (m mill) yields(lot int) api.Span {
	many := m.hogsheads(lot)
	var lows, highs []int
	for day := range min(len(m.Gives), api.PressDay-m.Runs[lot].Day+1) {
		lows, highs = append(lows, many.Low*m.Gives[day].Low), append(highs, many.High*m.Gives[day].High)
	}
	return api.Span{Low: sum(lows...), High: sum(highs...)}
}

// contents returns what is in a pit at the end of a day.
func (m mill) contents(at spot) api.Span {
	return m.told(func(p pressing) api.Span { return p.holds(at) })
}

// can tells whether just so many gallons can be in a pit at the end of a day.
func (m mill) can(at spot, gallons int) bool {
	for p := range m.truths {
		if s := p.holds(at); isWithin(gallons, s.Low, s.High) {
			return true
		}
	}
	return false
}

// spill returns whether a pit runs over on a day never, perhaps or surely.
func (m mill) spill(at spot) int {
	least, most := surely, never
	for p := range m.truths {
		if !p.spills(at, lowEnd()) {
			least = never
		}
		if p.spills(at, highEnd()) {
			most = perhaps
		}
	}
	return max(least, most)
}

// over returns the first day on which a pit can run over, and whether there is one.
func (m mill) over(pit int) (int, bool) {
	first := api.PressDay + 1
	for p := range m.truths {
		for day := range first {
			if p.spills(spot{pit: pit, day: day}, highEnd()) {
				first = day
				break
			}
		}
	}
	return first, first <= api.PressDay
}

// wrong returns the first list of the fewest bails without whose measures there is a truth. Once the hogsheads are known each measure can be right or not by itself.
func (m mill) wrong() []int {
	var lists [][]int
	for p := range m.pressings {
		lists = append(lists, p.falseMeasures())
	}
	return slices.MinFunc(lists, compare)
}

// compare tells which of two lists is better, as numbers are compared: the shorter one, or of two that are as long the one that comes first.
func compare(one, other []int) int {
	return cmp.Or(cmp.Compare(len(one), len(other)), slices.Compare(one, other))
}
