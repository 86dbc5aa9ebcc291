package bulk

import "huer/api"

// measures is how many hundreds of fish a measure of each kind holds.
type measures [api.BulkCask + 1]int

// load is the fish of a lot, and its packed fish.
type load struct{ fish, packed int }

// barrows returns how many barrows are enough for a load.
func (m measures) barrows(l load) int { return enough(l.fish, m[api.BulkBarrow]) }

// rows returns how many rows are enough for a load.
func (m measures) rows(l load) int { return enough(l.fish, m[api.BulkRow]) }

// casks returns how many hogsheads are enough for what is packed of a load.
func (m measures) casks(l load) int { return enough(l.packed, m[api.BulkCask]) }

// count returns how many measures of a kind are enough for a load.
func (m measures) count(kind int, l load) int {
	fills := [...]func(measures, load) int{
		api.BulkBarrow: measures.barrows,
		api.BulkRow:    measures.rows,
		api.BulkCask:   measures.casks,
	}
	return fills[kind](m, l)
}

// enough returns the least number of measures that have room for so many fish.
func enough(fish, holds int) int { return (fish + holds - 1) / holds }

// question is which number of a lot is asked for.
type question struct {
	number func(measures, load) int
}

// asksFish is the question how many fish a lot has.
func asksFish() question {
	return question{number: func(_ measures, l load) int { return l.fish }}
}

// asksPacked is the question how many fish of a lot are packed.
func asksPacked() question {
	return question{number: func(_ measures, l load) int { return l.packed }}
}

// asksCount is the question how many measures of a kind a lot fills.
func asksCount(kind int) question {
	return question{number: func(m measures, l load) int { return m.count(kind, l) }}
}
