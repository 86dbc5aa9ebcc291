package share

import "huer/api"

// limits are from which number to which one the ends of a span are, and how far apart at most.
type limits struct{ from, to, apart int }

// spanLimits are those of the Money and the Seed of a book.
var spanLimits = [...]limits{{0, api.ShareMoney, api.ShareWide}, {0, api.ShareSeed, api.ShareSeeds}}

// let tells whether both ends of a span are within the limits, and in their order.
func (x limits) let(s api.Span) bool {
	return isWithin(s.Low, x.from, x.to) && isWithin(s.High, x.from, x.to) && s.Low <= s.High && s.High-s.Low <= x.apart
}

// validBook tells whether a book has the form that all functions need.
func validBook(b api.ShareBook) bool {
	return validSpans(b) && areWithin(b.Rates, api.ShareRate) && validHolders(b.Holders) && validShares(b)
}

// validSpans tells whether what is known of the pence, and of the number of the drawing, is within its limits.
func validSpans(b api.ShareBook) bool {
	for at, s := range [...]api.Span{b.Money, b.Seed} {
		if !spanLimits[at].let(s) {
			return false
		}
	}
	return true
}

// validHolders tells whether there are neither too many holders nor none, and none has too much.
func validHolders(holders []api.ShareHolder) bool {
	if !isWithin(len(holders), 1, api.ShareHolders) {
		return false
	}
	for _, h := range holders {
		if !areWithin([...]int{h.Boats, h.Nets, h.Men}, api.ShareOwn) {
			return false
		}
	}
	return true
}

// validShares tells whether there are neither too many shares nor none, and what was noted can be noted of their draws. (The rates and the holders are valid.)
func validShares(b api.ShareBook) bool {
	has := newHoldings(b)
	if has == (holdings{}) || has.total() > api.ShareAll || len(b.Drawn) > min(api.ShareDrawn, has.total()) {
		return false
	}
	for _, holder := range b.Drawn {
		if holder != api.ShareNone && !isHolder(b, holder) {
			return false
		}
	}
	return true
}

// isHolder tells whether a number is that of a holder of a book.
func isHolder(b api.ShareBook, holder int) bool { return isWithin(holder, 0, len(b.Holders)-1) }

// isPayment tells whether there is a number of pence for each holder of a book.
func isPayment(b api.ShareBook, pays []int) bool {
	if len(pays) != len(b.Holders) {
		return false
	}
	for _, pence := range pays {
		if pence < 0 {
			return false
		}
	}
	return true
}

// areWithin tells whether each of three numbers, of boats, nets and men, is from 0 to another one.
func areWithin(numbers [3]int, to int) bool {
	for _, number := range numbers {
		if !isWithin(number, 0, to) {
			return false
		}
	}
	return true
}

// isWithin tells whether a number is from one to another one.
func isWithin(number, from, to int) bool { return from <= number && number <= to }
