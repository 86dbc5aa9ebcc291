package tide

import "huer/api"

// end is which end of what is known is meant.
type end struct {
	of func(api.Span) int
}

// lowEnd is the least that can be.
func lowEnd() end { return end{of: func(s api.Span) int { return s.Low }} }

// highEnd is the most that can be.
func highEnd() end { return end{of: func(s api.Span) int { return s.High }} }

// bothEnds are all ends that there are.
func bothEnds() [2]end { return [2]end{lowEnd(), highEnd()} }

// rooms are how many baskets each tide lets out.
type rooms [api.TideLows]int

// truth is the seine at Now, how many baskets each tide lets out, and the hour of the gale.
type truth struct {
	net
	rooms
	gale int
}

// ending is how many baskets the seine held at Now, how many of them were tucked out, and how many the gale finds in it.
type ending struct{ held, tucked, found int }

// out returns how many baskets were tucked out.
func (e ending) out() int { return e.tucked }

// lost returns how many baskets were not.
func (e ending) lost() int { return e.held - e.tucked }

// left returns how many baskets the gale found.
func (e ending) left() int { return e.found }

// ending returns what becomes of the seine by a plan in a truth.
func (l lows) ending(t truth, plan []int) ending {
	now, hour, tucked := t.net, l.Now, 0
	for _, tide := range plan {
		low := l.Tides[tide].Hour
		if low >= t.gale {
			break // all others are later
		}
		before := now.after(low - hour)
		now, hour = before.less(t.rooms[tide]), low
		tucked += before.held - now.held
	}
	return ending{held: t.held, tucked: tucked, found: now.after(t.gale - hour).held}
}
