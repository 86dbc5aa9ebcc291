package bond

import (
	"cmp"
	"math"
	"slices"

	"huer/api"
)

// What is asked of some bonds in a truth.
const (
	asksGets = iota
	asksShort
	asksFines
)

// quay is a valid book that is calculated with, all that its lots can have, and its lots, those that are ready last first.
type quay struct {
	api.BondBook
	stocks []stock
	latest []int
}

// newQuay returns the quay of a valid book.
func newQuay(b api.BondBook) quay {
	q := quay{BondBook: b, stocks: stocks(b.Bulk)}
	for lot := range b.Ready {
		q.latest = append(q.latest, lot)
	}
	slices.SortStableFunc(q.latest, func(one, other int) int { return cmp.Compare(b.Ready[other], b.Ready[one]) })
	return q
}

// right tells whether there is a truth.
func (q quay) right() bool { return len(q.stocks) > 0 }

// truths goes through the hogsheads of all lots in those truths in which each lot has as few as it can, or each as many, by what measures hold. Others tell nothing more: with a hogshead more no day has fewer, and no bond gets less.
func (q quay) truths(yield func(casks) bool) {
	for _, s := range q.stocks {
		for _, e := range [...]end{lowEnd(), highEnd()} {
			if !yield(s.at(e)) {
				return
			}
		}
	}
}

// told returns a number that there is in each truth, and is never below 0, at least and at most.
func (q quay) told(number func(casks) int) api.Span {
	result := api.Span{Low: math.MaxInt}
	for there := range q.truths {
		many := number(there)
		result.Low = least(result.Low, many)
		result.High = max(result.High, many)
	}
	return result
}

// hogsheads returns those of a day, at least and at most of all truths.
func (q quay) hogsheads(day int) api.Span {
	return q.told(func(there casks) int { return q.ready(there, day).total() })
}

// answer returns what is asked of some bonds, at least and at most of all truths.
func (q quay) answer(ask int, asked []sailing) api.Span {
	tells := [...]func(shipping, []sailing) int{
		asksGets:  shipping.gets,
		asksShort: shipping.short,
		asksFines: shipping.fines,
	}
	all := q.sailings()
	return q.told(func(there casks) int { return tells[ask](q.ship(there, all), asked) })
}

// sailings returns all bonds, with their own days.
func (q quay) sailings() []sailing {
	var all []sailing
	for number, bond := range q.Bonds {
		all = append(all, sailing{bond: number, day: bond.Day})
	}
	return all
}

// surely tells whether some of the bonds that are served get all that was bought, in each truth.
func (q quay) surely(served []sailing, asked ...sailing) bool {
	for there := range q.truths {
		if !isOfEach(asked, q.ship(there, served).isFull) {
			return false
		}
	}
	return true
}

// full returns the numbers of all bonds that surely get all that was bought.
func (q quay) full() []int {
	all := q.sailings()
	var list []int
	for _, one := range all {
		if q.surely(all, one) {
			list = append(list, one.bond)
		}
	}
	return list
}

// sell returns how many hogsheads a bond more on a day surely gets, if as many as can be are bought. Behind all others it gets these, too, if no more are bought.
func (q quay) sell(day int) int {
	last := len(q.Bonds)
	q.Bonds = append(q.Bonds[:last:last], api.BondBond{Many: api.BondCasks, Day: day})
	return q.answer(asksGets, []sailing{{bond: last, day: day}}).Low
}

// later returns the first day, not before its own, with which a bond surely gets all that was bought, and whether there is one.
func (q quay) later(bond int) (int, bool) {
	served := q.sailings()
	own := served[bond]
	for more := range api.MaxDay - own.day + 1 {
		served[bond] = sailing{bond: bond, day: own.day + more}
		if q.surely(served, served[bond]) {
			return served[bond].day, true
		}
	}
	return 0, false
}

// drop returns the numbers of the first of the fewest bonds without which all others surely get all that was bought.
func (q quay) drop() []int {
	all := q.sailings()
	var list []int
	for dropped := range choices(all) {
		rest := without(all, dropped)
		if !q.surely(rest, rest...) {
			continue
		}
		for _, one := range dropped {
			list = append(list, one.bond)
		}
		break
	}
	return list
}
