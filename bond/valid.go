package bond

import (
	"huer/api"
	"huer/bulk"
)

// limits are from which number to which one a number is.
type limits struct{ from, to int }

// bondLimits are those of the Many, the Day and the Fine of a bond.
var bondLimits = [...]limits{{1, api.BondCasks}, {0, api.MaxDay}, {0, api.BondFine}}

// validBook tells whether a book has the form that all functions need.
func validBook(b api.BondBook) bool {
	return bulk.Check(b.Bulk) == api.OK && validReady(b) && validBonds(b.Bonds)
}

// validReady tells whether each lot has a day from which on its hogsheads can be shipped.
func validReady(b api.BondBook) bool {
	if len(b.Ready) != len(b.Bulk.Lots) {
		return false
	}
	for _, day := range b.Ready {
		if !isDay(day) {
			return false
		}
	}
	return true
}

// validBonds tells whether there are not too many bonds, all of them valid.
func validBonds(bonds []api.BondBond) bool {
	if len(bonds) > api.BondBonds {
		return false
	}
	for _, bond := range bonds {
		if !validBond(bond) {
			return false
		}
	}
	return true
}

// validBond tells whether all numbers of a bond are within their limits.
func validBond(bond api.BondBond) bool {
	for at, number := range [...]int{bond.Many, bond.Day, bond.Fine} {
		if !isWithin(number, bondLimits[at].from, bondLimits[at].to) {
			return false
		}
	}
	return true
}

// isDay tells whether a number is that of a day.
func isDay(day int) bool { return isWithin(day, 0, api.MaxDay) }

// isBond tells whether a number is that of a bond of a book.
func isBond(b api.BondBook, bond int) bool { return isWithin(bond, 0, len(b.Bonds)-1) }

// isWithin tells whether a number is from one to another one.
func isWithin(number, from, to int) bool { return from <= number && number <= to }
