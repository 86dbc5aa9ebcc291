package turn

import (
	"iter"
	"slices"

	"huer/api"
)

// cove is a valid book that is calculated with, what is known of its bounds, and which company has each turn.
type cove struct {
	api.TurnBook
	known
	owner map[spell]int
}

// newCove returns the cove of a valid book.
func newCove(b api.TurnBook) cove {
	c := cove{TurnBook: b, known: knownOf(b.Bounds), owner: map[spell]int{}}
	for station, order := range b.Orders {
		for turn, company := range order {
			c.owner[spell{station, turn}] = company
		}
	}
	return c
}

// moment returns when a shot was.
func (c cove) moment(shot int) moment { return moment(c.Shots[shot].At) }

// truths goes through all truths, as far as bounds have them.
func (c cove) truths() iter.Seq[truth] {
	return func(yield func(truth) bool) {
		t := noBounds
		var set func(bound int) bool
		set = func(bound int) bool {
			if bound == len(c.Bounds) {
				return yield(t)
			}
			for minute := range moment(c.Bounds[bound]).minutes() {
				t[bound] = minute
				if !set(bound + 1) {
					return false
				}
			}
			return true
		}
		set(0)
	}
}

// owners returns all companies, increasing, that can have the turn at a station, at a minute.
func (c cove) owners(station, minute int) []int {
	var companies []int
	for s := range c.spells(station, just(minute)) {
		companies = append(companies, c.owner[s])
	}
	slices.Sort(companies)
	return slices.Compact(companies)
}

// sure returns all runs of minutes at which nobody but a company can have the turn at a station.
func (c cove) sure(station, company int) []api.Span {
	var runs []api.Span
next:
	for minute := range api.TurnMinutes {
		for s := range c.spells(station, just(minute)) {
			if c.owner[s] != company {
				continue next
			}
		}
		if last := len(runs) - 1; last >= 0 && runs[last].High == minute-1 {
			runs[last].High = minute
		} else {
			runs = append(runs, api.Span(just(minute)))
		}
	}
	return runs
}

// claim is a shot, with the companies by which it is judged.
type claim struct {
	api.TurnShot
	owner map[spell]int
}

// claim returns a shot to be judged.
func (c cove) claim(shot int) claim { return claim{TurnShot: c.Shots[shot], owner: c.owner} }

// fair tells whether the company of the shot has a turn.
func (c claim) fair(s spell) bool { return c.owner[s] == c.Company }

// judge tells in how many truths a shot is fair, by what is known of the bounds.
func (c cove) judge(shot int, k known) int {
	return count(k.spells(c.Shots[shot].Station, c.moment(shot)), c.claim(shot).fair)
}

// count tells whether something is so of each spell, of some, or of none.
func count(spells iter.Seq[spell], is func(spell) bool) int {
	each, none := true, true
	for s := range spells {
		if is(s) {
			none = false
		} else {
			each = false
		}
	}
	switch {
	case each:
		return inEach
	case none:
		return inNone
	}
	return inSome
}

// hangs tells whether a shot hangs on a bound. It is enough to move this one from end to end, wherever the others are: at a minute between its ends each other one is surely past, or surely to come.
func (c cove) hangs(shot, bound int) bool {
	soon, late := c.soon, c.soon
	late[bound] = c.late[bound]
	station, fair := c.Shots[shot].Station, c.claim(shot).fair
	for minute := range c.moment(shot).minutes() {
		if fair(spell{station, soon.turn(minute)}) != fair(spell{station, late.turn(minute)}) {
			return true
		}
	}
	return false
}
