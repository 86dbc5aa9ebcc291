package share

import "huer/api"

// payment is how many pence each holder is paid (nothing those that there are not).
type payment [api.ShareHolders]int

// newPayment returns the payment of a list, which is not too long.
func newPayment(pays []int) payment {
	var paid payment
	copy(paid[:], pays)
	return paid
}

// and returns the payment with a penny more for each of some draws.
func (paid payment) and(wins []win) payment {
	for _, w := range wins {
		paid[w.holder]++
	}
	return paid
}

// pay returns what is paid of some pence, by the draws of all shares.
func (r reckoning) pay(pence int, wins []win) payment {
	var equally payment
	for holder, shares := range r.has {
		equally[holder] = pence / len(wins) * shares
	}
	left := pence % len(wins)
	return equally.and(wins[:left:left])
}

// payments goes through what is paid in all truths.
func (r reckoning) payments(yield func(payment) bool) {
	for seed := range r.seeds() {
		wins := r.has.drawing(seed)
		for pence := range each(r.Money) {
			if !yield(r.pay(pence, wins)) {
				return
			}
		}
	}
}

// paid returns what a holder is paid, at least and at most of all truths, of which there is one.
func (r reckoning) paid(holder int) api.Span {
	result := api.Span{Low: api.ShareMoney}
	for paid := range r.payments {
		result.Low = min(result.Low, paid[holder])
		result.High = max(result.High, paid[holder])
	}
	return result
}

// canPay tells whether this is paid in some truth.
func (r reckoning) canPay(this payment) bool {
	for paid := range r.payments {
		if paid == this {
			return true
		}
	}
	return false
}
