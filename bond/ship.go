package bond

import "cmp"

// shipping is what each bond that is served gets in a truth. (What is not in the map gets nothing.)
type shipping struct {
	quay
	got map[sailing]int
}

// ship returns what bonds get of the hogsheads that there are, if they are served in this order.
func (q quay) ship(there casks, served []sailing) shipping {
	s := shipping{quay: q, got: map[sailing]int{}}
	var serve func(waiting []sailing, left casks)
	// serve ships what is left to the first bond for which there is something, and then to the bonds behind it.
	serve = func(waiting []sailing, left casks) {
	next:
		for number, one := range waiting {
			ready := q.ready(left, one.day)
			if ready == (casks{}) {
				continue next
			}
			taken := q.take(ready, q.Bonds[one.bond].Many)
			s.got[one] = taken.total()
			serve(waiting[number+1:len(waiting):len(waiting)], left.less(taken))
			return
		}
	}
	serve(served, there)
	return s
}

// ready returns those hogsheads that can be shipped on a day.
func (q quay) ready(there casks, day int) casks {
	for lot, from := range q.Ready {
		if from > day {
			there[lot] = 0
		}
	}
	return there
}

// take returns as many of the hogsheads that are ready as one bond gets, at most so many. The lots that are ready last come first: whoever can have these can have the others, too, so that what is left is as good as it can be for all bonds behind.
func (q quay) take(ready casks, many int) casks {
	var taken casks
	for _, lot := range q.latest {
		taken[lot] = least(ready[lot], many)
		many -= taken[lot]
	}
	return taken
}

// gets returns how many hogsheads some bonds get together.
func (s shipping) gets(asked []sailing) int {
	total := 0
	for _, one := range asked {
		total += s.got[one]
	}
	return total
}

// short returns by how many hogsheads some bonds fall short together.
func (s shipping) short(asked []sailing) int {
	total := 0
	for _, one := range asked {
		total += s.lacks(one)
	}
	return total
}

// fines returns what is paid for some bonds together.
func (s shipping) fines(asked []sailing) int {
	total := 0
	for _, one := range asked {
		total += s.lacks(one) * s.Bonds[one.bond].Fine
	}
	return total
}

// lacks returns by how many hogsheads a bond falls short.
func (s shipping) lacks(one sailing) int { return s.Bonds[one.bond].Many - s.got[one] }

// isFull tells whether a bond gets all that was bought.
func (s shipping) isFull(one sailing) bool { return s.lacks(one) == 0 }

// least returns the least of several values.
func least[N cmp.Ordered](first N, others ...N) N {
	for _, other := range others {
		if other < first {
			first = other
		}
	}
	return first
}
