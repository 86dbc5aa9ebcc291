package seine

import (
	"iter"

	"huer/api"
)

// states are all that can be at some time.
type states map[state]bool

// tale is a catch, and in which states the seine is in its truths behind each number of notes, from none to all.
type tale struct {
	catch
	behind []states
}

// tale returns what is told by the catch.
func (c catch) tale() tale {
	t := tale{catch: c, behind: make([]states, len(c.Notes)+1)}
	var goOn func(past int, some states) states
	// goOn leaves those of some states behind so many notes from which all others can be right, and tells of them.
	goOn = func(past int, some states) states {
		if past < len(c.Notes) {
			some = c.leading(past, some, goOn(past+1, c.reached(past, some)))
		}
		t.behind[past] = some
		return some
	}
	first := states{}
	for s := range c.start {
		first[s] = true
	}
	goOn(0, first)
	return t
}

// reached returns all states behind a note to which it leads from some before it.
func (c catch) reached(note int, some states) states {
	result := states{}
	for from := range some {
		for s := range c.claim(note, from).behind {
			result[s] = true
		}
	}
	return result
}

// leading returns those of some states from which a note can be right, so that it leads to one of others.
func (c catch) leading(note int, some, others states) states {
	result := states{}
next:
	for from := range some {
		for s := range c.claim(note, from).behind {
			if others[s] {
				result[from] = true
				continue next
			}
		}
	}
	return result
}

// right tells whether there is a truth.
func (t tale) right() bool { return len(t.behind[0]) > 0 }

// at goes through all states at an hour.
func (t tale) at(hour int) iter.Seq[state] {
	past, since := 0, hour
	for past < len(t.Notes) && t.Notes[past].Hour <= hour {
		since = hour - t.Notes[past].Hour
		past++
	}
	return func(yield func(state) bool) {
		for s := range t.behind[past] {
			if !yield(s.after(since)) {
				return
			}
		}
	}
}

// held returns how many baskets are held at an hour.
func (t tale) held(hour int) api.Span {
	return question{number: func(s state) int { return s.held }}.span(t.at(hour))
}

// rate returns how many baskets are lost in an hour.
func (t tale) rate(hour int) api.Span {
	return question{number: func(s state) int { return s.rate }}.span(t.at(hour))
}

// saved returns how many baskets mending at the last note saves until the last hour.
func (t tale) saved() api.Span {
	left := api.SeineHours - t.last()
	return question{number: func(s state) int { return s.held - s.after(left).held }}.span(t.at(t.last()))
}
