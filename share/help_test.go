package share_test

import (
	"cmp"
	"math/rand/v2"
	"slices"

	"huer/api"
	"huer/share"
)

// none is what was noted of a draw of which nothing was.
const none = api.ShareNone

func to(low, high int) api.Span { return api.Span{Low: low, High: high} }

func just(number int) api.Span { return to(number, number) }

func owner(boats, nets, men int) api.ShareHolder {
	return api.ShareHolder{Boats: boats, Nets: nets, Men: men}
}

// book is that of the chapter's examples, after some changes, and other and torn are the other ones.
func book(changes ...func(b *api.ShareBook)) api.ShareBook {
	return with(api.ShareBook{
		Rates: [3]int{2, 1, 1}, Holders: []api.ShareHolder{owner(1, 0, 1), owner(0, 1, 1), owner(0, 0, 1)},
		Money: to(100, 101), Seed: to(7, 9), Drawn: []int{2},
	}, changes...)
}

func other() api.ShareBook { return book(drawn(none, 1)) }

func torn() api.ShareBook { return book(drawn(0, 1)) }

// men is a book of holders who sent so many men each, who have a share each. By even numbers below 10 the first of two men wins the draw 0, by odd ones the other.
func men(many ...int) api.ShareBook {
	b := api.ShareBook{Rates: [3]int{0, 0, 1}, Money: just(5), Seed: to(0, 3)}
	for _, sent := range many {
		b.Holders = append(b.Holders, owner(0, 0, sent))
	}
	return b
}

// with is a book after some changes.
func with(b api.ShareBook, changes ...func(b *api.ShareBook)) api.ShareBook {
	b.Holders, b.Drawn = slices.Clone(b.Holders), slices.Clone(b.Drawn)
	for _, change := range changes {
		change(&b)
	}
	return b
}

func rates(boat, net, man int) func(b *api.ShareBook) {
	return func(b *api.ShareBook) { b.Rates = [3]int{boat, net, man} }
}

func holders(all ...api.ShareHolder) func(b *api.ShareBook) {
	return func(b *api.ShareBook) { b.Holders = all }
}

func nth(number int, h api.ShareHolder) func(b *api.ShareBook) {
	return func(b *api.ShareBook) { b.Holders[number] = h }
}

func money(low, high int) func(b *api.ShareBook) {
	return func(b *api.ShareBook) { b.Money = to(low, high) }
}

func seed(low, high int) func(b *api.ShareBook) {
	return func(b *api.ShareBook) { b.Seed = to(low, high) }
}

func drawn(notes ...int) func(b *api.ShareBook) {
	return func(b *api.ShareBook) { b.Drawn = notes }
}

// noted is a change after which one more note tells who won a draw, with nothing noted of those before it that were not.
func noted(draw, holder int) func(b *api.ShareBook) {
	return func(b *api.ShareBook) {
		for len(b.Drawn) <= draw {
			b.Drawn = append(b.Drawn, none)
		}
		b.Drawn[draw] = holder
	}
}

// unnoted is a change as if nothing was noted of some draws.
func unnoted(list ...int) func(b *api.ShareBook) {
	return func(b *api.ShareBook) {
		for _, draw := range list {
			b.Drawn[draw] = none
		}
	}
}

// slowShares is how many shares each holder has, counted one by one.
func slowShares(b api.ShareBook) []int {
	list := make([]int, len(b.Holders))
	for _, holder := range row(b) {
		list[holder]++
	}
	return list
}

// row is who holds each share, as all shares lie at first.
func row(b api.ShareBook) []int {
	var all []int
	for number, h := range b.Holders {
		for kind, many := range []int{h.Boats, h.Nets, h.Men} {
			all = append(all, slices.Repeat([]int{number}, many*b.Rates[kind])...)
		}
	}
	return all
}

// slowOrder is who wins each draw of a drawing by a number, as the chapter says it.
func slowOrder(b api.ShareBook, seed int) []int {
	var winners []int
	x, left := seed, row(b)
	for len(left) > 0 {
		x = (75*x + 74) % 65537
		place := x % len(left)
		winners = append(winners, left[place])
		left = slices.Delete(left, place, place+1)
	}
	return winners
}

// slowPay is what all holders are paid of some pence, by a drawing: one penny after the other, once all shares have what they have equally.
func slowPay(b api.ShareBook, pence int, winners []int) []int {
	list := make([]int, len(b.Holders))
	for holder, many := range slowShares(b) {
		list[holder] = many * (pence / len(winners))
	}
	for penny := range pence % len(winners) {
		list[winners[penny]]++
	}
	return list
}

// isRight tells whether all notes are, if the draws were won so.
func isRight(b api.ShareBook, winners []int) bool {
	for draw, holder := range b.Drawn {
		if holder != none && winners[draw] != holder {
			return false
		}
	}
	return true
}

// slowSeeds are all numbers by which all notes are right.
func slowSeeds(b api.ShareBook) []int {
	var list []int
	for seed := b.Seed.Low; seed <= b.Seed.High; seed++ {
		if isRight(b, slowOrder(b, seed)) {
			list = append(list, seed)
		}
	}
	return list
}

// slowPayments are what all holders are paid in all truths.
func slowPayments(b api.ShareBook) [][]int {
	var all [][]int
	for _, seed := range slowSeeds(b) {
		for pence := b.Money.Low; pence <= b.Money.High; pence++ {
			all = append(all, slowPay(b, pence, slowOrder(b, seed)))
		}
	}
	return all
}

// slowPays is what each holder is paid, at least and at most.
func slowPays(b api.ShareBook) []api.Span {
	list := slices.Repeat([]api.Span{to(1<<30, -1)}, len(b.Holders))
	for _, paid := range slowPayments(b) {
		for holder, pence := range paid {
			list[holder] = to(min(list[holder].Low, pence), max(list[holder].High, pence))
		}
	}
	return list
}

// worst is how many of some numbers are left at the worst, once it is known who won a draw.
func worst(b api.ShareBook, seeds []int, draw int) int {
	left := make([]int, len(b.Holders))
	for _, seed := range seeds {
		left[slowOrder(b, seed)[draw]]++
	}
	return slices.Max(left)
}

// slowAsk is the first draw of which the fewest numbers are left at the worst, or -1 if there is one number alone.
func slowAsk(b api.ShareBook) int {
	seeds := slowSeeds(b)
	if len(seeds) == 1 {
		return -1
	}
	var all []int
	for draw := range row(b) {
		all = append(all, worst(b, seeds, draw))
	}
	return slices.Index(all, slices.Min(all))
}

// slowWrong is the best list of notes without which there is a truth.
func slowWrong(b api.ShareBook) []int {
	for _, list := range listsOf(len(b.Drawn)) {
		if len(slowSeeds(with(b, unnoted(list...)))) > 0 {
			return list
		}
	}
	return []int{-1}
}

// listsOf are all strictly increasing lists of numbers below one, the best first.
func listsOf(many int) [][]int {
	var all [][]int
	for set := range 1 << many {
		var list []int
		for number := range many {
			if set>>number&1 == 1 {
				list = append(list, number)
			}
		}
		all = append(all, list)
	}
	slices.SortFunc(all, func(one, other []int) int {
		return cmp.Or(cmp.Compare(len(one), len(other)), slices.Compare(one, other))
	})
	return all
}

// total is the sum of a list.
func total(list []int) int {
	all := 0
	for _, number := range list {
		all += number
	}
	return all
}

func isIn(number int, s api.Span) bool { return s.Low <= number && number <= s.High }

// results are those of all functions of a book, which are asked for a number, a holder, and some pays.
func results(b api.ShareBook, seed, holder int, pays []int) []any {
	shares, e1 := share.Shares(b)
	order, e2 := share.Order(b, seed)
	right, e3 := share.Right(b)
	seeds, e4 := share.Seeds(b)
	paid, e5 := share.Pays(b, holder)
	can, e6 := share.Can(b, pays)
	ask, e7 := share.Ask(b)
	wrong, e8 := share.Wrong(b)
	return []any{share.Check(b), shares, e1, order, e2, right, e3, seeds, e4, paid, e5, can, e6, ask, e7, wrong, e8}
}

// errorsOf are the errors among results: those of Check, Shares, Order, Right, Seeds, Pays, Can, Ask, Wrong.
func errorsOf(results []any) []api.Errno {
	var list []api.Errno
	for _, x := range results {
		if e, ok := x.(api.Errno); ok {
			list = append(list, e)
		}
	}
	return list
}

// chance is a source of books that is the same in each run.
func chance(seed uint64) *rand.Rand { return rand.New(rand.NewPCG(seed, 8)) }

// around is a span from one number to another in which a number lies, its ends no more than so far apart.
func around(r *rand.Rand, number, most, wide int) api.Span {
	apart := r.IntN(wide + 1)
	least := number - r.IntN(apart+1)
	return to(max(least, 0), min(least+apart, most))
}

// truth is how many pence there truly were, and the number by which it was truly drawn.
type truth struct{ pence, seed int }

// anyShares is a book with rates and holders alone, with 1 to 60 shares.
func anyShares(r *rand.Rand) api.ShareBook {
	for {
		var b api.ShareBook
		most, owns := 1+r.IntN(9), 1+r.IntN(5)
		for kind := range b.Rates {
			b.Rates[kind] = r.IntN(most + 1)
		}
		for range 1 + r.IntN(6) {
			b.Holders = append(b.Holders, owner(r.IntN(owns+1), r.IntN(owns+1), r.IntN(owns+1)))
		}
		if many := len(row(b)); many > 0 && many <= 60 {
			return b
		}
	}
}

// anyTrueBook is a valid book all notes of which are right, and a truth of it.
func anyTrueBook(r *rand.Rand) (api.ShareBook, truth) {
	b := anyShares(r)
	x := truth{pence: r.IntN([]int{10, 500, 10000}[r.IntN(3)]), seed: r.IntN([]int{60, 10000}[r.IntN(2)])}
	b.Money, b.Seed = around(r, x.pence, 9999, r.IntN(21)), around(r, x.seed, 9999, r.IntN(51))
	winners := slowOrder(b, x.seed)
	b.Drawn = winners[:r.IntN(min(len(winners), 8)+1)]
	for draw := range b.Drawn {
		if r.IntN(3) == 0 {
			b.Drawn[draw] = none
		}
	}
	return b, x
}

// anyBook is a valid book some notes of which may be false.
func anyBook(r *rand.Rand) api.ShareBook {
	b, _ := anyTrueBook(r)
	often := r.IntN(3)
	for draw := range b.Drawn {
		if r.IntN(4) < often {
			b.Drawn[draw] = r.IntN(len(b.Holders))
		}
	}
	return b
}

// trueBook is a valid book that can be true, though some notes may be false by what was truly drawn.
func trueBook(r *rand.Rand) api.ShareBook {
	for {
		if b := anyBook(r); len(slowSeeds(b)) > 0 {
			return b
		}
	}
}
