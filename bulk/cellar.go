package bulk

import (
	"cmp"
	"iter"
	"slices"

	"huer/api"
)

// cellar is a valid book that is calculated with.
type cellar struct {
	api.BulkBook
}

// stores goes through all that measures can hold, whatever was counted.
func (c cellar) stores(yield func(store) bool) {
	var fill func(kind int, m measures) bool
	// fill goes through all that measures of a kind, and of those behind it, can hold, and tells whether to go on.
	fill = func(kind int, m measures) bool {
		if kind == len(m) {
			return yield(store{cellar: c, measures: m})
		}
		for holds := range numbers(c.Holds[kind]) {
			m[kind] = holds
			if !fill(kind+1, m) {
				return false
			}
		}
		return true
	}
	fill(0, measures{})
}

// truths goes through all that measures hold in a truth.
func (c cellar) truths(yield func(store) bool) {
	for s := range c.stores {
		if s.isTrue() && !yield(s) {
			return
		}
	}
}

// first returns what measures hold in the first truth, or nothing if there is none.
func (c cellar) first() measures {
	for s := range c.truths {
		return s.measures
	}
	return measures{}
}

// right tells whether there is a truth.
func (c cellar) right() bool { return c.first() != measures{} }

// holds returns how many fish a measure of a kind holds, at least and at most of all truths.
func (c cellar) holds(kind int) api.Span {
	result := api.Span{Low: api.BulkHolds} // no measure holds more, and none holds nothing
	for s := range c.truths {
		result.Low = min(result.Low, s.measures[kind])
		result.High = max(result.High, s.measures[kind])
	}
	return result
}

// answer returns what is asked of some lots together, at least and at most of all truths.
func (c cellar) answer(q question, lots []api.BulkLot) api.Span {
	result := api.Span{Low: api.BulkFish * api.BulkLots} // no number is greater, and none is below 0
	for s := range c.truths {
		var lows, highs []int
		for _, lot := range lots {
			one := s.span(q, lot)
			lows, highs = append(lows, one.Low), append(highs, one.High)
		}
		result.Low = min(result.Low, sum(lows...))
		result.High = max(result.High, sum(highs...))
	}
	return result
}

// apart returns how far the ends of the fish of all lots together are apart.
func (c cellar) apart() int {
	total := c.answer(asksFish(), c.Lots)
	return total.High - total.Low
}

// known returns the cellar if a measure of a kind holds just so many.
func (c cellar) known(kind, holds int) cellar {
	c.Holds[kind] = api.Span{Low: holds, High: holds}
	return c
}

// worst returns how far the ends of all fish are apart at most, once it is known what a measure of a kind holds.
func (c cellar) worst(kind int) int {
	worst := 0
	for holds := range numbers(c.Holds[kind]) {
		if known := c.known(kind, holds); known.right() {
			worst = max(worst, known.apart())
		}
	}
	return worst
}

// weigh returns the first kind with which the ends of all fish are the closest together, at the worst.
func (c cellar) weigh() int {
	best, closest := api.BulkBarrow, c.worst(api.BulkBarrow)
	for _, kind := range [...]int{api.BulkRow, api.BulkCask} {
		if worst := c.worst(kind); worst < closest {
			best, closest = kind, worst
		}
	}
	return best
}

// wrong returns the first list of the fewest counts without which there is a truth.
func (c cellar) wrong() []int {
	var lists [][]int
	for s := range c.stores {
		lists = append(lists, s.falseCounts())
	}
	return slices.MinFunc(lists, compare)
}

// compare tells which of two lists is better, as numbers are compared: the shorter one, or of two that are as long the one that comes first.
func compare(one, other []int) int {
	return cmp.Or(cmp.Compare(len(one), len(other)), slices.Compare(one, other))
}

// numbers goes through all numbers of a span, increasing (none, if its High is below its Low).
func numbers(s api.Span) iter.Seq[int] {
	return func(yield func(int) bool) {
		for more := range s.High - s.Low + 1 {
			if !yield(s.Low + more) {
				return
			}
		}
	}
}

// sum returns several numbers together.
func sum[N ~int](numbers ...N) N {
	var total N
	for _, number := range numbers {
		total += number
	}
	return total
}
