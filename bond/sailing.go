package bond

import (
	"iter"
	"slices"
)

// sailing is the number of a bond, and the day on which its ship sails.
type sailing struct{ bond, day int }

// choices goes through all that can be chosen of a list: the fewest first, and of as many the first ones.
func choices(all []sailing) iter.Seq[[]sailing] {
	return func(yield func([]sailing) bool) {
		var choose func(chosen, from []sailing, more int) bool
		// choose goes through all choices of so many more, and tells whether to go on.
		choose = func(chosen, from []sailing, more int) bool {
			if more == 0 {
				return yield(chosen)
			}
			for number, one := range from {
				// without room behind it append cannot write into what other choices share
				longer := append(chosen[:len(chosen):len(chosen)], one)
				if !choose(longer, from[number+1:len(from):len(from)], more-1) {
					return false
				}
			}
			return true
		}
		for many := range len(all) + 1 {
			if !choose(nil, all, many) {
				return
			}
		}
	}
}

// without returns a list without some of it.
func without(all, dropped []sailing) []sailing {
	return slices.DeleteFunc(slices.Clone(all), func(one sailing) bool { return slices.Contains(dropped, one) })
}

// isOfEach tells whether something is so of each bond.
func isOfEach(bonds []sailing, is func(sailing) bool) bool {
	for _, one := range bonds {
		if !is(one) {
			return false
		}
	}
	return true
}
