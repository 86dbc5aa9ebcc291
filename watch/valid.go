package watch

import (
	"huer/api"
	"huer/cry"
	"huer/turn"
)

// limits are the least and the greatest value of a number.
type limits struct{ least, most int }

// hold tells whether a number lies between the limits.
func (l limits) hold(number int) bool { return l.least <= number && number <= l.most }

// What limits are of: the minute at which a watch begins, a minute of it, and a side of a seine.
const (
	ofStart = iota
	ofMinute
	ofSeine
)

// allLimits are those of all numbers that hang on nothing else of a book.
var allLimits = [...]limits{ofStart: {0, api.WatchStart}, ofMinute: {0, api.CryLast}, ofSeine: {1, api.WatchSeine}}

// validBook tells whether a book has the form that all functions need.
func validBook(b api.WatchBook) bool {
	return cry.Check(b.Cry) == api.OK && turn.Check(b.Turn) == api.OK &&
		allLimits[ofStart].hold(b.Start) && validGrounds(b) && validNets(b)
}

// validGrounds tells whether each station of a book, whose Cry and Turn are valid, has a ground that is all in the bay.
func validGrounds(b api.WatchBook) bool {
	if len(b.Grounds) != len(b.Turn.Orders) {
		return false
	}
	for _, ground := range b.Grounds {
		if !validGround(b.Cry, ground) {
			return false
		}
	}
	return true
}

// validGround tells whether a ground is all in the bay. Its sides are compared with what is left of the bay, as they can be too great to be added to anything.
func validGround(bay api.CryBook, g api.WatchGround) bool {
	if g.At < 0 || g.At >= bay.Wide*bay.High {
		return false
	}
	wide, high := limits{1, bay.Wide - g.At%bay.Wide}, limits{1, bay.High - g.At/bay.Wide}
	return wide.hold(g.Wide) && high.hold(g.High)
}

// validNets tells whether each company of a book, whose Turn is valid, has a seine with such sides as there are.
func validNets(b api.WatchBook) bool {
	if len(b.Nets) != b.Turn.Companies {
		return false
	}
	for _, net := range b.Nets {
		if !allLimits[ofSeine].hold(net.Wide) || !allLimits[ofSeine].hold(net.High) {
			return false
		}
	}
	return true
}

// isStation tells whether a number is that of a station.
func isStation(b api.WatchBook, station int) bool {
	return 0 <= station && station < len(b.Turn.Orders)
}

// isCompany tells whether a number is that of a company.
func isCompany(b api.WatchBook, company int) bool {
	return 0 <= company && company < b.Turn.Companies
}

// isMinute tells whether a number is that of a minute of the watch.
func isMinute(minute int) bool { return allLimits[ofMinute].hold(minute) }
