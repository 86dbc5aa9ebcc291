package bond_test

import (
	"cmp"
	"math/rand/v2"
	"slices"

	"huer/api"
	"huer/bond"
)

// none is what a count tells that was not made.
const none = api.BulkNone

func to(low, high int) api.Span { return api.Span{Low: low, High: high} }

func just(number int) api.Span { return to(number, number) }

func lot(waste api.Span, barrows, rows, casks int) api.BulkLot {
	return api.BulkLot{Told: [3]int{barrows, rows, casks}, Waste: waste}
}

func sold(many, day, fine int) api.BondBond { return api.BondBond{Many: many, Day: day, Fine: fine} }

// cellar is the bulk of the chapter's examples: 6 hogsheads, and 6 to 8.
func cellar() api.BulkBook {
	return api.BulkBook{
		Holds: [3]api.Span{just(4), just(9), to(5, 6)},
		Lots:  []api.BulkLot{lot(just(0), none, none, 6), lot(to(0, 2), 9, none, none)},
	}
}

// book is the chapter's example, with some bonds.
func book(bonds ...api.BondBond) api.BondBook {
	return api.BondBook{Bulk: cellar(), Ready: []int{10, 20}, Bonds: bonds}
}

// own is the book of the chapter's examples, after some changes, and early the other one.
func own(changes ...func(b *api.BondBook)) api.BondBook {
	return with(book(sold(8, 20, 5), sold(4, 10, 3), sold(3, 15, 2)), changes...)
}

func early() api.BondBook { return book(sold(8, 20, 5), sold(3, 5, 4)) }

// torn is a book whose counts contradict each other.
func torn() api.BondBook { return own(told(1, api.BulkRow, 1)) }

// with is a book after some changes.
func with(b api.BondBook, changes ...func(b *api.BondBook)) api.BondBook {
	b.Bulk.Lots, b.Ready, b.Bonds = slices.Clone(b.Bulk.Lots), slices.Clone(b.Ready), slices.Clone(b.Bonds)
	for _, change := range changes {
		change(&b)
	}
	return b
}

func told(lot, kind, many int) func(b *api.BondBook) {
	return func(b *api.BondBook) { b.Bulk.Lots[lot].Told[kind] = many }
}

func holds(kind int, s api.Span) func(b *api.BondBook) {
	return func(b *api.BondBook) { b.Bulk.Holds[kind] = s }
}

func ready(days ...int) func(b *api.BondBook) {
	return func(b *api.BondBook) { b.Ready = days }
}

func bonds(all ...api.BondBond) func(b *api.BondBook) {
	return func(b *api.BondBook) { b.Bonds = all }
}

func nth(number int, s api.BondBond) func(b *api.BondBook) {
	return func(b *api.BondBook) { b.Bonds[number] = s }
}

func more(s api.BondBond) func(b *api.BondBook) {
	return func(b *api.BondBook) { b.Bonds = append(b.Bonds, s) }
}

// dropped is a change after which some bonds, strictly increasing, are not there.
func dropped(list ...int) func(b *api.BondBook) {
	return func(b *api.BondBook) {
		for _, number := range slices.Backward(list) {
			b.Bonds = slices.Delete(b.Bonds, number, number+1)
		}
	}
}

// known is a book of lots with just so many hogsheads, each with its day, and some bonds.
func known(casks, days []int, all ...api.BondBond) api.BondBook {
	b := api.BondBook{Bulk: api.BulkBook{Holds: [3]api.Span{just(4), just(9), just(5)}}, Ready: days, Bonds: all}
	for _, many := range casks {
		b.Bulk.Lots = append(b.Bulk.Lots, lot(just(0), none, none, many))
	}
	return b
}

// within is a book of lots with so many hogsheads, give or take some, each with its day, and some bonds.
func within(wrongBy int, casks, days []int, all ...api.BondBond) api.BondBook {
	b := known(casks, days, all...)
	b.Bulk.Error[api.BulkCask] = wrongBy
	return b
}

// counts are the true numbers of measures of all kinds, of which each holds so many, of a lot of so many fish, with such waste.
func counts(measures [3]int, fish, waste int) [3]int {
	var many [3]int
	for kind, amount := range [3]int{fish, fish, fish - waste} {
		for many[kind]*measures[kind] < amount {
			many[kind]++
		}
	}
	return many
}

// isRight tells whether all counts of a lot are, with such true numbers.
func isRight(b api.BulkBook, l api.BulkLot, many [3]int) bool {
	for kind, told := range l.Told {
		if told != none && max(told-many[kind], many[kind]-told) > b.Error[kind] {
			return false
		}
	}
	return true
}

// lotCasks are all true numbers of hogsheads that a lot can have, if measures hold so many.
func lotCasks(b api.BulkBook, measures [3]int, l api.BulkLot) []int {
	set := map[int]bool{}
	for fish := 0; fish <= 400; fish++ {
		for waste := l.Waste.Low; waste <= l.Waste.High && waste <= fish; waste++ {
			if many := counts(measures, fish, waste); isRight(b, l, many) {
				set[many[api.BulkCask]] = true
			}
		}
	}
	var list []int
	for many := range set {
		list = append(list, many)
	}
	slices.Sort(list)
	return list
}

// truths are the hogsheads of all lots, of each truth of a book once; none, if it cannot be true, and no more than so many.
func truths(b api.BulkBook, most int) [][]int {
	seen := map[[4]int]bool{}
	var all [][]int
	var pass func(sets [][]int, chosen []int)
	pass = func(sets [][]int, chosen []int) {
		if len(chosen) < len(sets) {
			for _, many := range sets[len(chosen)] {
				pass(sets, append(slices.Clone(chosen), many))
			}
			return
		}
		var key [4]int
		copy(key[:], chosen)
		if !seen[key] && len(all) < most {
			seen[key] = true
			all = append(all, chosen)
		}
	}
	for barrow := b.Holds[0].Low; barrow <= b.Holds[0].High; barrow++ {
		for row := b.Holds[1].Low; row <= b.Holds[1].High; row++ {
			for cask := b.Holds[2].Low; cask <= b.Holds[2].High; cask++ {
				var sets [][]int
				for _, l := range b.Lots {
					sets = append(sets, lotCasks(b, [3]int{barrow, row, cask}, l))
				}
				pass(sets, nil)
			}
		}
	}
	return all
}

// casksOn are the hogsheads of a day in a truth.
func casksOn(b api.BondBook, there []int, day int) int {
	total := 0
	for i, many := range there {
		if b.Ready[i] <= day {
			total += many
		}
	}
	return total
}

// shipped are the hogsheads that all bonds whose Day is not after a day get together.
func shipped(b api.BondBook, gets []int, day int) int {
	total := 0
	for i, many := range gets {
		if b.Bonds[i].Day <= day {
			total += many
		}
	}
	return total
}

// isShipping tells whether bonds, of which the last ones may get nothing, can get so many hogsheads each. (Only on the day of a bond more are shipped than before.)
func isShipping(b api.BondBook, there, gets []int) bool {
	for _, s := range b.Bonds {
		if shipped(b, gets, s.Day) > casksOn(b, there, s.Day) {
			return false
		}
	}
	return true
}

// slowGets is what all bonds get in a truth, as the chapter says it.
func slowGets(b api.BondBook, there []int) []int {
	var gets []int
	for _, s := range b.Bonds {
		many := s.Many
		for !isShipping(b, there, append(slices.Clone(gets), many)) {
			many--
		}
		gets = append(gets, many)
	}
	return gets
}

// sight is all that is told of a book that can be true.
type sight struct {
	casks        []api.Span // on each of some days
	gets         []api.Span
	full         []int
	short, fines api.Span
}

// seenDays are the days of which a sight tells: those that are drawn, those behind them, and the last one.
var seenDays = []int{0, 1, 2, 3, 4, 5, 6, 7, 8, 9, 10, 11, 399}

func widen(s *api.Span, number int) { *s = to(min(s.Low, number), max(s.High, number)) }

func blank(many int) []api.Span { return slices.Repeat([]api.Span{to(1<<30, -1)}, many) }

// slow is what is told of a book with such truths, of which there is one.
func slow(b api.BondBook, all [][]int) sight {
	s := sight{casks: blank(len(seenDays)), gets: blank(len(b.Bonds)), short: blank(1)[0], fines: blank(1)[0]}
	for _, there := range all {
		for i, day := range seenDays {
			widen(&s.casks[i], casksOn(b, there, day))
		}
		short, fines := 0, 0
		for i, many := range slowGets(b, there) {
			widen(&s.gets[i], many)
			short += b.Bonds[i].Many - many
			fines += b.Bonds[i].Fine * (b.Bonds[i].Many - many)
		}
		widen(&s.short, short)
		widen(&s.fines, fines)
	}
	for i, gets := range s.gets {
		if gets.Low == b.Bonds[i].Many {
			s.full = append(s.full, i)
		}
	}
	return s
}

// seen is what the package tells of a book, and its first error.
func seen(b api.BondBook) (sight, api.Errno) {
	s := sight{casks: blank(len(seenDays)), gets: blank(len(b.Bonds))}
	var first, e api.Errno
	for i, day := range seenDays {
		s.casks[i], e = bond.Casks(b, day)
		first = cmp.Or(first, e)
	}
	for i := range b.Bonds {
		s.gets[i], e = bond.Gets(b, i)
		first = cmp.Or(first, e)
	}
	s.full, e = bond.Full(b)
	first = cmp.Or(first, e)
	s.short, e = bond.Short(b)
	first = cmp.Or(first, e)
	s.fines, e = bond.Fines(b)
	return s, cmp.Or(first, e)
}

// same tells whether two sights are so.
func (s sight) same(other sight) bool {
	return slices.Equal(s.casks, other.casks) && slices.Equal(s.gets, other.gets) && slices.Equal(s.full, other.full) && s.short == other.short && s.fines == other.fines
}

// isAllFull tells whether all bonds get as many as their Many in each truth.
func isAllFull(b api.BondBook, all [][]int) bool { return len(slow(b, all).full) == len(b.Bonds) }

// slowSell is how many hogsheads can be sold on a day, by trying each number.
func slowSell(b api.BondBook, all [][]int, day int) int {
	for many := 60; many > 0; many-- {
		longer := with(b, more(sold(many, day, 0)))
		if slices.Contains(slow(longer, all).full, len(b.Bonds)) {
			return many
		}
	}
	return 0
}

// slowLater is the first day with which a bond surely gets all, or -1. It tries the days of sights, behind which nothing changes.
func slowLater(b api.BondBook, all [][]int, number int) int {
	for _, day := range seenDays {
		s := b.Bonds[number]
		if day < s.Day {
			continue
		}
		s.Day = day
		if slices.Contains(slow(with(b, nth(number, s)), all).full, number) {
			return day
		}
	}
	return -1
}

// slowDrop is the best list of bonds without which all others surely get all.
func slowDrop(b api.BondBook, all [][]int) []int {
	for _, list := range listsOf(len(b.Bonds)) {
		if isAllFull(with(b, dropped(list...)), all) {
			return list
		}
	}
	return []int{-1}
}

// listsOf are all strictly increasing lists of numbers below one, the best first.
func listsOf(many int) [][]int {
	var all [][]int
	for set := range 1 << many {
		var list []int
		for number := range many {
			if set>>number&1 == 1 {
				list = append(list, number)
			}
		}
		all = append(all, list)
	}
	slices.SortFunc(all, func(one, other []int) int {
		return cmp.Or(cmp.Compare(len(one), len(other)), slices.Compare(one, other))
	})
	return all
}

// mostShipped is how many hogsheads all bonds get together, in any of all shippings.
func mostShipped(b api.BondBook, there []int) int {
	most := 0
	var pass func(gets []int, total int)
	pass = func(gets []int, total int) {
		if !isShipping(b, there, gets) {
			return
		}
		most = max(most, total)
		if len(gets) == len(b.Bonds) {
			return
		}
		for many := range b.Bonds[len(gets)].Many + 1 {
			pass(append(slices.Clone(gets), many), total+many)
		}
	}
	pass(nil, 0)
	return most
}

// results are those of all functions of a book.
func results(b api.BondBook, number, day int) []any {
	casks, e1 := bond.Casks(b, day)
	gets, e2 := bond.Gets(b, number)
	full, e3 := bond.Full(b)
	short, e4 := bond.Short(b)
	fines, e5 := bond.Fines(b)
	sell, e6 := bond.Sell(b, day)
	later, e7 := bond.Later(b, number)
	drop, e8 := bond.Drop(b)
	return []any{bond.Check(b), casks, e1, gets, e2, full, e3, short, e4, fines, e5, sell, e6, later, e7, drop, e8}
}

// errorsOf are the errors among results: those of Check, Casks, Gets, Full, Short, Fines, Sell, Later, Drop.
func errorsOf(results []any) []api.Errno {
	var list []api.Errno
	for _, x := range results {
		if e, ok := x.(api.Errno); ok {
			list = append(list, e)
		}
	}
	return list
}

// chance is a source of books that is the same in each run.
func chance(seed uint64) *rand.Rand { return rand.New(rand.NewPCG(seed, 7)) }

// around is a span from one number to another in which a number lies, its ends no more than so far apart.
func around(r *rand.Rand, number, from, most, wide int) api.Span {
	apart := r.IntN(wide + 1)
	least := number - r.IntN(apart+1)
	return to(max(least, from), min(least+apart, most))
}

// anyTrueBook is a valid book whose counts are right, with some bonds, and the hogsheads of all lots by which it was counted.
func anyTrueBook(r *rand.Rand, many int) (api.BondBook, []int) {
	var b api.BondBook
	var measures [3]int
	for kind := range 3 {
		measures[kind] = 2 + r.IntN(8)
		b.Bulk.Holds[kind] = around(r, measures[kind], 1, 9, r.IntN(3))
		b.Bulk.Error[kind] = r.IntN(2)
	}
	var there []int
	for range r.IntN(5) {
		fish := r.IntN([]int{1, 20, 60, 60}[r.IntN(4)])
		waste := r.IntN(min(fish, 20) + 1)
		truly := counts(measures, fish, waste)
		l := api.BulkLot{Told: [3]int{none, none, none}, Waste: around(r, waste, 0, 20, r.IntN(4))}
		must := r.IntN(3)
		for kind := range 3 {
			off := r.IntN(2*b.Bulk.Error[kind]+1) - b.Bulk.Error[kind]
			if kind == must || r.IntN(2) == 0 {
				l.Told[kind] = min(max(truly[kind]+off, 0), 40)
			}
		}
		b.Bulk.Lots, b.Ready, there = append(b.Bulk.Lots, l), append(b.Ready, r.IntN(10)), append(there, truly[api.BulkCask])
	}
	for range many {
		b.Bonds = append(b.Bonds, sold(1+r.IntN([]int{4, 12, 60}[r.IntN(3)]), r.IntN(11), r.IntN(100)))
	}
	return b, there
}

// mostTruths is how many truths books have that are gone through.
const mostTruths = 300

// smallBook is a valid book, with up to so many bonds, not too many truths, and these truths. If torn is so, some of its counts may be false.
func smallBook(r *rand.Rand, most int, torn bool) (api.BondBook, [][]int) {
	for {
		b, _ := anyTrueBook(r, r.IntN(most+1))
		for i := range b.Bulk.Lots {
			if torn && r.IntN(3) == 0 {
				b.Bulk.Lots[i].Told[r.IntN(3)] = r.IntN(12)
			}
		}
		if all := truths(b.Bulk, mostTruths+1); len(all) <= mostTruths {
			return b, all
		}
	}
}

// knownBook is a valid book of which it is known how many hogsheads each lot has, and these, with small bonds if this is so.
func knownBook(r *rand.Rand, most int, small bool) (api.BondBook, []int) {
	var there, days []int
	for range r.IntN(5) {
		there, days = append(there, r.IntN([]int{4, 20, 41}[r.IntN(3)])), append(days, r.IntN(10))
	}
	b := known(there, days)
	for range r.IntN(most + 1) {
		many := 1 + r.IntN(5)
		if !small {
			many = 1 + r.IntN(60)
		}
		b.Bonds = append(b.Bonds, sold(many, r.IntN(11), r.IntN(100)))
	}
	return b, there
}
