package share

import "huer/api"

// How a drawing goes on from a number to the next one.
const (
	drawTimes = 75
	drawPlus  = 74
	drawPrime = 65537
)

// owner is a holder, asked what it has.
type owner api.ShareHolder

func (o owner) boats() int { return o.Boats }

func (o owner) nets() int { return o.Nets }

func (o owner) men() int { return o.Men }

// shares returns how many shares the owner has, by what a boat, a net and a man have.
func (o owner) shares(rates [3]int) int {
	var parts [3]int
	for kind, many := range [...]func(owner) int{owner.boats, owner.nets, owner.men} {
		parts[kind] = rates[kind] * many(o)
	}
	return sum(parts[:]...)
}

// holdings is how many shares each holder has (none those that there are not).
type holdings [api.ShareHolders]int

// newHoldings returns the shares of a book whose rates and holders are valid.
func newHoldings(b api.ShareBook) holdings {
	var has holdings
	for number, h := range b.Holders {
		has[number] = owner(h).shares(b.Rates)
	}
	return has
}

// total returns the shares of all holders together.
func (has holdings) total() int { return sum(has[:]...) }

// at returns who holds the share at a place in the row, at which there is one. As all other shares stay in their order, those of a holder always lie together, behind those of the holders before it.
func (has holdings) at(place int) int {
	holder := 0
	for place >= has[holder] {
		place -= has[holder]
		holder++
	}
	return holder
}

// win is a draw, and who won it.
type win struct{ draw, holder int }

// drawing returns all draws of a drawing by a number, in order. (has is a copy, out of which shares are taken.)
func (has holdings) drawing(seed int) []win {
	var wins []win
	x := seed
	all := has.total()
	for draw := range all {
		x = (drawTimes*x + drawPlus) % drawPrime
		holder := has.at(x % (all - draw))
		has[holder]--
		wins = append(wins, win{draw: draw, holder: holder})
	}
	return wins
}

// sum returns the sum of several numbers.
func sum[N ~int](numbers ...N) N {
	var total N
	for _, number := range numbers {
		total += number
	}
	return total
}
