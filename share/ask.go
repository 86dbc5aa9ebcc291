package share

// contest is how draws are compared.
type contest struct {
	isBetter func(one, other int) bool
}

// best returns the first of the best ones of so many draws, of which there is one at least.
func (c contest) best(many int) int {
	best := 0
	for draw := range many {
		if c.isBetter(draw, best) {
			best = draw
		}
	}
	return best
}

// ask returns the draw of which, once it is known who won it, the fewest of some numbers are left at the worst.
func (r reckoning) ask(seeds []int) int {
	left := map[win]int{}
	for _, seed := range seeds {
		for _, w := range r.has.drawing(seed) {
			left[w]++
		}
	}
	worst := func(draw int) int {
		most := 0
		for holder := range r.Holders {
			most = max(most, left[win{draw: draw, holder: holder}])
		}
		return most
	}
	c := contest{isBetter: func(one, other int) bool { return worst(one) < worst(other) }}
	return c.best(r.has.total())
}
