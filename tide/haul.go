package tide

import (
	"cmp"
	"slices"

	"huer/api"
	"huer/seine"
)

// What is asked of a plan.
const (
	asksOut = iota
	asksLost
	asksLeft
)

// haul is a valid book that is calculated with, and what is known of its seine at Now.
type haul struct {
	lows
	held, rate api.Span
}

// newHaul returns the haul of a valid book. As its seine can be true, and Now is an hour, there is no error.
func newHaul(b api.TideBook) haul {
	held, _ := seine.Held(b.Seine, b.Now)
	rate, _ := seine.Rate(b.Seine, b.Now)
	return haul{lows: lows{b}, held: held, rate: rate}
}

// mended returns the haul if the seine loses nothing.
func (h haul) mended() haul {
	h.rate = api.Span{}
	return h
}

// with returns the haul if the gale comes just at an hour.
func (h haul) with(gale int) haul {
	h.Gale = api.Span{Low: gale, High: gale}
	return h
}

// lets returns how many baskets each tide lets out, all at the same end.
func (h haul) lets(e end) rooms {
	var result rooms
	for tide, low := range h.Tides {
		result[tide] = e.of(low.Room)
	}
	return result
}

// nets returns what the seine is at the ends of what is known of it.
func (h haul) nets() map[net]bool {
	result := map[net]bool{}
	for _, held := range bothEnds() {
		for _, rate := range bothEnds() {
			result[net{held: held.of(h.held), rate: rate.of(h.rate)}] = true
		}
	}
	return result
}

// extremes goes through the truths at the ends of what is known. With more in the seine, a greater rate, more room at any tide, or a later gale, whatever is asked of a plan never falls, or never rises: so its least and its greatest number are among these truths.
func (h haul) extremes(yield func(truth) bool) {
	for n := range h.nets() {
		for _, room := range bothEnds() {
			for _, gale := range bothEnds() {
				if !yield(truth{net: n, rooms: h.lets(room), gale: gale.of(h.Gale)}) {
					return
				}
			}
		}
	}
}

// answer returns what is asked of a plan, at least and at most.
func (h haul) answer(ask int, plan []int) api.Span {
	tells := [...]func(ending) int{
		asksOut:  ending.out,
		asksLost: ending.lost,
		asksLeft: ending.left,
	}
	result := api.Span{Low: api.SeineFish} // no number is greater, and none is below 0
	for t := range h.extremes {
		number := tells[ask](h.ending(t, plan))
		result.Low = least(result.Low, number)
		result.High = max(result.High, number)
	}
	return result
}

// best returns the plan by which the fewest baskets are lost at most.
func (h haul) best() []int {
	if h.lets(lowEnd()) == (rooms{}) {
		return nil // no tide surely lets anything out, so all can be lost by each plan
	}
	var best []int
	fewest := h.answer(asksLost, best).High
	for plan := range h.plans {
		lost := h.answer(asksLost, plan).High
		if cmp.Or(cmp.Compare(lost, fewest), cmp.Compare(len(plan), len(best)), slices.Compare(plan, best)) < 0 {
			best, fewest = plan, lost
		}
	}
	return best
}

// spare returns all tides of a plan without each of which no more baskets are lost at most.
func (h haul) spare(plan []int) []int {
	most := h.answer(asksLost, plan).High
	var list []int
	for at, tide := range plan {
		if h.answer(asksLost, without(plan, at)).High <= most {
			list = append(list, tide)
		}
	}
	return list
}

// calm tells whether by some plan nothing is left in any truth.
func (h haul) calm() bool {
	for plan := range h.plans {
		if h.answer(asksLeft, plan).High == 0 {
			return true
		}
	}
	return false
}
