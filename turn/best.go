package turn

import (
	"cmp"
	"slices"

	"huer/api"
)

// wrong returns the best list of shots that are unfair in one truth. As one shot has no say in when another one was, all that can be fair by its bounds can be fair together.
func (c cove) wrong() []int {
	best := c.unfair(c.soon)
	for t := range c.truths() {
		if list := c.unfair(t); fewer(list, best) {
			best = list
		}
		if len(best) == 0 {
			break // no list is better
		}
	}
	return best
}

// unfair returns all shots that cannot be fair with these minutes of the bounds, increasing.
func (c cove) unfair(t truth) []int {
	var list []int
	for shot := range c.Shots {
		if c.judge(shot, known{soon: t, late: t}) == inNone {
			list = append(list, shot)
		}
	}
	return list
}

// fewer tells whether a list is better than another one: it is shorter, or as long and comes first.
func fewer(one, other []int) bool {
	return cmp.Or(cmp.Compare(len(one), len(other)), slices.Compare(one, other)) < 0
}

// contest is between things that are numbered from 0 on.
type contest struct {
	better func(one, other int) bool
}

// winner returns the first one of the best of so many things.
func (c contest) winner(many int) int {
	best := 0
	for number := range many {
		if c.better(number, best) {
			best = number
		}
	}
	return best
}

// learn returns the bound that it is best to learn, of one or more.
func (c cove) learn() int {
	var left [api.TurnBounds]int
	for bound := range c.Bounds {
		left[bound] = c.left(bound)
	}
	return contest{better: func(one, other int) bool { return left[one] < left[other] }}.winner(len(c.Bounds))
}

// left returns how many shots are still undecided, at the worst, once the minute of a bound is known.
func (c cove) left(bound int) int {
	most := 0
	for minute := range moment(c.Bounds[bound]).minutes() {
		most = greatest(most, c.learned(bound, minute).undecided())
	}
	return most
}

// learned returns the cove in which the minute of a bound is known.
func (c cove) learned(bound, minute int) cove {
	b := c.TurnBook
	// without room behind them append cannot write into the memory of the caller
	b.Bounds = append(c.Bounds[:bound:bound], api.Span(just(minute)))
	b.Bounds = append(b.Bounds, c.Bounds[bound+1:]...)
	return newCove(b)
}

// undecided returns how many shots are fair in some truths and not in others.
func (c cove) undecided() int {
	many := 0
	for shot := range c.Shots {
		if c.judge(shot, c.known) == inSome {
			many++
		}
	}
	return many
}

// greatest returns the greatest of several numbers.
func greatest[N cmp.Ordered](first N, others ...N) N {
	for _, other := range others {
		first = max(first, other)
	}
	return first
}
