package tide

import "huer/api"

// lows are the tides of a book, of which plans choose.
type lows struct {
	api.TideBook
}

// follows tells whether a tide can come next in a plan behind another one.
func (l lows) follows(before, tide int) bool {
	return before < tide && l.Tides[tide].Hour-l.Tides[before].Hour >= l.Rest
}

// isPlan tells whether tides are a plan.
func (l lows) isPlan(plan []int) bool {
	if len(plan) > l.Most {
		return false
	}
	for _, tide := range plan {
		if !isWithin(tide, 0, len(l.Tides)-1) {
			return false
		}
	}
	return eachNext(plan, l.follows)
}

// eachNext tells whether something is so of each number of a list, but the first one, and the number before it.
func eachNext(list []int, is func(before, number int) bool) bool {
	for at, number := range list {
		if at > 0 && !is(list[at-1], number) {
			return false
		}
	}
	return true
}

// plans goes through all plans, compared element by element. Each is new memory.
func (l lows) plans(yield func([]int) bool) {
	var choose func(plan []int) bool
	// choose goes through a plan and all that it begins, and tells whether to go on.
	choose = func(plan []int) bool {
		if !yield(plan) {
			return false
		}
		if len(plan) == l.Most {
			return true
		}
	next:
		for tide := range l.Tides {
			for _, before := range plan {
				if !l.follows(before, tide) {
					continue next
				}
			}
			// without room behind it each choice goes on with a list of its own
			if !choose(append(plan[:len(plan):len(plan)], tide)) {
				return false
			}
		}
		return true
	}
	choose(nil)
}

// without returns a plan without the tide at one of its places.
func without(plan []int, at int) []int {
	// without room behind it append cannot write into the memory of the caller
	return append(plan[:at:at], plan[at+1:]...)
}
