package press

import "huer/api"

// The ends of what runs into a pit.
const (
	atLeast = iota
	atMost
)

// spot is a pit, and a day.
type spot struct{ pit, day int }

// spotOf returns where and when there was a bail.
func spotOf(b api.PressBail) spot { return spot{pit: b.Pit, day: b.Day} }

// casks is how many hogsheads there are of each lot (none of the lots that there are not).
type casks [api.BulkLots]int

// end is which end of a span is meant.
type end struct {
	of func(api.Span) int
}

// lowEnd is the least that can be.
func lowEnd() end { return end{of: func(s api.Span) int { return s.Low }} }

// highEnd is the most that can be.
func highEnd() end { return end{of: func(s api.Span) int { return s.High }} }

// pressing is a mill of which it is known how many hogsheads the lots have. (Then what is given on one day has nothing to do with what is given on another one, and no pit with another pit.)
type pressing struct {
	mill
	casks casks
}

// pressed returns the hogsheads from which oil runs into a pit on a day.
func (p pressing) pressed(at spot) casks {
	var result casks
	for lot, run := range p.Runs {
		if run.Pit == at.pit && isWithin(at.day-run.Day, 0, len(p.Gives)-1) {
			result[lot] = p.casks[lot]
		}
	}
	return result
}

// gallons returns what runs into a pit on a day, if all hogsheads give what one end of the Gives says.
func (p pressing) gallons(at spot, e end) int {
	pressed := p.pressed(at)
	if pressed == (casks{}) {
		return 0
	}
	var given []int
	for lot, run := range p.Runs {
		if pressed[lot] > 0 {
			given = append(given, pressed[lot]*e.of(p.Gives[at.day-run.Day]))
		}
	}
	return sum(given...)
}

// least returns the least that runs into a pit on a day.
func (p pressing) least(at spot) int { return p.gallons(at, lowEnd()) }

// most returns the most that runs into a pit on a day.
func (p pressing) most(at spot) int { return p.gallons(at, highEnd()) }

// flow returns what runs into a pit on a day, at least and at most. (Each number between them can be, too.)
func (p pressing) flow(at spot) api.Span {
	tells := [...]func(pressing, spot) int{atLeast: pressing.least, atMost: pressing.most}
	return api.Span{Low: tells[atLeast](p, at), High: tells[atMost](p, at)}
}

// flows returns what runs into a pit from one day to another one, at least and at most (nothing, if that is the day before).
func (p pressing) flows(pit, from, to int) api.Span {
	var lows, highs []int
	for more := range to - from + 1 {
		flow := p.flow(spot{pit: pit, day: from + more})
		lows, highs = append(lows, flow.Low), append(highs, flow.High)
	}
	return api.Span{Low: sum(lows...), High: sum(highs...)}
}

// sum returns several numbers together.
func sum[N ~int](numbers ...N) N {
	var total N
	for _, number := range numbers {
		total += number
	}
	return total
}
