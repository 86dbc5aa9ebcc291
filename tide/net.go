package tide

import "cmp"

// net is how many baskets the seine holds, and how many it loses in an hour.
type net struct{ held, rate int }

// less returns the net without so many baskets, or empty if it holds fewer.
func (n net) less(many int) net {
	n.held -= least(n.held, many)
	return n
}

// after returns the net when some hours have passed.
func (n net) after(hours int) net {
	for range hours {
		next := n.less(n.rate)
		if next == n {
			break // what an hour does not change no other one does
		}
		n = next
	}
	return n
}

// least returns the least of several values.
func least[N cmp.Ordered](first N, others ...N) N {
	for _, other := range others {
		if other < first {
			first = other
		}
	}
	return first
}
