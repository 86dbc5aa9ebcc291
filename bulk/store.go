package bulk

import (
	"iter"

	"huer/api"
)

// store is a cellar of which it is known what measures hold.
type store struct {
	cellar
	measures
}

// agrees tells whether the count of a kind is right if a lot is such a load.
func (s store) agrees(lot api.BulkLot, kind int, l load) bool {
	told := lot.Told[kind]
	if told == api.BulkNone {
		return true
	}
	return isWithin(s.count(kind, l), told-s.Error[kind], told+s.Error[kind])
}

// loads goes through all loads of a lot by which its counts are right.
func (s store) loads(lot api.BulkLot) iter.Seq[load] {
	return func(yield func(load) bool) {
	next:
		for fish := range api.BulkFish + 1 {
			// the kinds before hogsheads are filled before anything is packed
			for kind := range api.BulkCask {
				if !s.agrees(lot, kind, load{fish: fish}) {
					continue next
				}
			}
			for waste := range numbers(api.Span{Low: lot.Waste.Low, High: min(lot.Waste.High, fish)}) {
				l := load{fish: fish, packed: fish - waste}
				if s.agrees(lot, api.BulkCask, l) && !yield(l) {
					return
				}
			}
		}
	}
}

// canBe tells whether all counts of a lot can be right.
func (s store) canBe(lot api.BulkLot) bool {
	for range s.loads(lot) {
		return true
	}
	return false
}

// isTrue tells whether all counts of all lots can be right. (No lot has to do with what another one is, once it is known what measures hold.)
func (s store) isTrue() bool { return isOfEach(s.Lots, s.canBe) }

// ends returns the least and the greatest load of a lot that can be true. As each number that is asked for rises with the fish alone, or with the packed fish alone, both are found on their own.
func (s store) ends(lot api.BulkLot) map[load]bool {
	least, most := load{fish: api.BulkFish, packed: api.BulkFish}, load{}
	for l := range s.loads(lot) {
		least = load{fish: min(least.fish, l.fish), packed: min(least.packed, l.packed)}
		most = load{fish: max(most.fish, l.fish), packed: max(most.packed, l.packed)}
	}
	result := map[load]bool{}
	result[least] = true
	result[most] = true
	return result
}

// span returns what is asked of a lot that can be true, at least and at most.
func (s store) span(q question, lot api.BulkLot) api.Span {
	result := api.Span{Low: api.BulkFish} // no number is greater, and none is below 0
	for l := range s.ends(lot) {
		number := q.number(s.measures, l)
		result.Low = min(result.Low, number)
		result.High = max(result.High, number)
	}
	return result
}

// falseKinds returns the kinds of the first of the fewest counts without which a lot can be true.
func (s store) falseKinds(lot api.BulkLot) []int {
	for _, kinds := range [...][]int{{}, {api.BulkBarrow}, {api.BulkRow}, {api.BulkCask}} {
		if s.canBe(without(lot, kinds)) {
			return kinds
		}
	}
	// hogsheads alone are always right: the most that can be told, and the most that is spoiled, are no more fish than a lot can have
	return []int{api.BulkBarrow, api.BulkRow}
}

// falseCounts returns the numbers of the first of the fewest counts without which all lots can be true. As lots do not depend on each other here, these are the first of the fewest of each lot, one behind the other.
func (s store) falseCounts() []int {
	var list []int
	for number, lot := range s.Lots {
		for _, kind := range s.falseKinds(lot) {
			list = append(list, number*len(s.measures)+kind)
		}
	}
	return list
}

// without returns a lot as if the counts of some kinds were not made.
func without(lot api.BulkLot, kinds []int) api.BulkLot {
	for _, kind := range kinds {
		lot.Told[kind] = api.BulkNone
	}
	return lot
}

// isOfEach tells whether something is so of each lot.
func isOfEach(lots []api.BulkLot, is func(api.BulkLot) bool) bool {
	for _, lot := range lots {
		if !is(lot) {
			return false
		}
	}
	return true
}
