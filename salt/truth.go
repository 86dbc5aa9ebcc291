package salt

import (
	"cmp"
	"maps"
	"slices"

	"huer/api"
)

// What is asked of a day.
const (
	asksLeft = iota
	asksUsed
)

// never is more bushels than there ever are, so that no truth has so many of them gone.
const never = api.SaltLeft + 1

// trueSteps goes through the steps of all days that are in a truth, each of them once.
func (l ledger) trueSteps(yield func(step) bool) {
	known, stopped := map[level]bool{}, false
	var goesOn func(from level) bool
	// goesOn tells whether a truth goes on from a level, and goes through all steps by which it does.
	goesOn = func(from level) bool {
		if l.isOver(from) {
			return true
		}
		if is, ok := known[from]; ok {
			return is
		}
		is := false
		for s := range l.steps(from, l.agrees) {
			if !goesOn(s.level()) {
				continue
			}
			is = true
			// once the caller has stopped on a day behind it nothing more is told
			if stopped || !yield(s) {
				stopped = true
				break
			}
		}
		known[from] = is
		return is
	}
	for from := range l.outsets {
		goesOn(from)
		if stopped {
			return
		}
	}
}

// right tells whether there is a truth.
func (l ledger) right() bool {
	for range l.trueSteps {
		return true
	}
	return false
}

// answer returns what is asked of a day, at least and at most of all truths.
func (l ledger) answer(ask, day int) api.Span {
	tells := [...]func(step) int{asksLeft: step.left, asksUsed: step.used}
	result := api.Span{Low: api.SaltLeft} // there are never more bushels, and never less than none
	for s := range l.trueSteps {
		if s.day == day {
			bushels := tells[ask](s)
			result.Low = least(result.Low, bushels)
			result.High = max(result.High, bushels)
		}
	}
	return result
}

// gone returns the least number of bushels that went elsewhere in a truth with theft in which all counts are right, or never if there is none. What goes elsewhere can as well go on the day of the next count, as until then there is only more: so just what a count misses goes, on its day.
func (l ledger) gone() int {
	known := map[level]int{}
	var goesOn func(from level) int
	// goesOn returns how many bushels go elsewhere at least on the days behind a level, or never.
	goesOn = func(from level) int {
		if l.isOver(from) {
			return 0
		}
		if fewest, ok := known[from]; ok {
			return fewest
		}
		var all []int
		for s := range l.steps(from, l.covers) {
			found := l.counted(s)
			later := goesOn(found)
			all = append(all, s.left()-found.left+later)
		}
		known[from] = least(never, all...)
		return known[from]
	}
	var all []int
	for from := range l.outsets {
		fewest := goesOn(from)
		all = append(all, fewest)
	}
	return least(never, all...)
}

// falseCounts returns for each level at the end of the last day the best list of the days whose counts are false if it is so (no list, if there is no truth even without counts).
func (l ledger) falseCounts() map[level][]int {
	lists := map[level][]int{}
	for from := range l.outsets {
		lists[from] = nil
	}
	for range l.Days {
		lists = l.pass(lists)
	}
	return lists
}

// pass returns the best list for each level to which the next day can lead, by the best lists for the levels before it.
func (l ledger) pass(lists map[level][]int) map[level][]int {
	result := map[level][]int{}
	for from, list := range lists {
		// without room behind it append cannot write into a list that other levels share
		longer := append(list[:len(list):len(list)], from.day+1)
		for s := range l.steps(from) {
			told := longer
			if l.agrees(s) {
				told = list
			}
			if other, known := result[s.level()]; !known || compare(told, other) < 0 {
				result[s.level()] = told
			}
		}
	}
	return result
}

// best returns the best one of some lists, of which there is one at least.
func best(lists map[level][]int) []int {
	return slices.MinFunc(slices.Collect(maps.Values(lists)), compare)
}

// compare tells which of two lists is better, as numbers are compared: the shorter one, or of two that are as long the one that comes first.
func compare(one, other []int) int {
	return cmp.Or(cmp.Compare(len(one), len(other)), slices.Compare(one, other))
}

// least returns the least of several values.
func least[N cmp.Ordered](first N, others ...N) N {
	for _, other := range others {
		if other < first {
			first = other
		}
	}
	return first
}
