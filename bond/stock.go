package bond

import (
	"huer/api"
	"huer/bulk"
)

// casks is how many hogsheads there are of each lot (none of the lots that there are not).
type casks [api.BulkLots]int

// total returns the hogsheads of all lots together.
func (c casks) total() int {
	total := 0
	for _, many := range c {
		total += many
	}
	return total
}

// less returns what is left if some hogsheads are taken.
func (c casks) less(taken casks) casks {
	for lot, many := range taken {
		c[lot] -= many
	}
	return c
}

// stock is how many hogsheads each lot can have, once it is known what measures hold. (Then no lot has to do with what another one has.)
type stock [api.BulkLots]api.Span

// end is which end of the hogsheads is meant.
type end struct {
	of func(api.Span) int
}

// lowEnd is the least that can be.
func lowEnd() end { return end{of: func(s api.Span) int { return s.Low }} }

// highEnd is the most that can be.
func highEnd() end { return end{of: func(s api.Span) int { return s.High }} }

// at returns the hogsheads of all lots at one end.
func (s stock) at(e end) casks {
	var result casks
	for lot, many := range s {
		result[lot] = e.of(many)
	}
	return result
}

// newStock returns the stock of a bulk of which it is known what measures hold, and whether that can be true.
func newStock(known api.BulkBook) (stock, bool) {
	var result stock
	for lot := range known.Lots {
		many, e := bulk.Count(known, lot, api.BulkCask)
		if e != api.OK {
			return stock{}, false
		}
		result[lot] = many
	}
	return result, true
}

// stocks returns all that lots can have, for all that measures hold in a truth of a bulk (none, if it cannot be true).
func stocks(b api.BulkBook) []stock {
	var all []stock
	var fill func(kind int, known api.BulkBook)
	// fill goes through all that measures of a kind, and of those behind it, can hold.
	fill = func(kind int, known api.BulkBook) {
		if kind == len(known.Holds) {
			if s, is := newStock(known); is {
				all = append(all, s)
			}
			return
		}
		holds := b.Holds[kind]
		for more := range holds.High - holds.Low + 1 {
			known.Holds[kind] = api.Span{Low: holds.Low + more, High: holds.Low + more}
			fill(kind+1, known)
		}
	}
	fill(0, b)
	return all
}
