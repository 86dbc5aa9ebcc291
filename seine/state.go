package seine

import (
	"cmp"
	"iter"

	"huer/api"
)

// state is how many baskets the seine holds, and how many it loses in an hour.
type state struct{ held, rate int }

// take returns the state when so many baskets, which there must be, are taken out.
func (s state) take(many int) state {
	s.held -= many
	return s
}

// tear returns the state when so many baskets more are lost in an hour.
func (s state) tear(many int) state {
	s.rate += many
	return s
}

// mend returns the state when nothing is lost any more.
func (s state) mend(int) state {
	s.rate = 0
	return s
}

// lose returns the state when so many baskets are gone, or all if these are fewer.
func (s state) lose(many int) state { return s.take(least(s.held, many)) }

// keep returns the state as it is.
func (s state) keep(int) state { return s }

// after returns the state when some hours have passed.
func (s state) after(hours int) state {
	var pass func(now state, left int) state
	pass = func(now state, left int) state {
		next := now.lose(now.rate)
		if left == 0 || next == now {
			return now // what an hour does not change no other one does
		}
		return pass(next, left-1)
	}
	return pass(s, hours)
}

// question is which number of a state is asked for.
type question struct {
	number func(state) int
}

// span returns the least and the greatest of the numbers of some states, of which there is at least one.
func (q question) span(states iter.Seq[state]) api.Span {
	result := api.Span{Low: api.SeineFish} // no number is greater, and none is below 0
	for s := range states {
		number := q.number(s)
		result.Low = least(result.Low, number)
		result.High = max(result.High, number)
	}
	return result
}

// least returns the least of several values.
func least[N cmp.Ordered](first N, others ...N) N {
	for _, other := range others {
		if other < first {
			first = other
		}
	}
	return first
}
