package salt_test

import (
	"cmp"
	"math/rand/v2"
	"slices"

	"huer/api"
	"huer/bulk"
	"huer/salt"
)

// none is what was counted on a day on which it was not.
const none = api.SaltNone

func to(low, high int) api.Span { return api.Span{Low: low, High: high} }

func just(number int) api.Span { return to(number, number) }

// cellar is the book of the chapter on bulks: 18 hogsheads.
func cellar() api.BulkBook {
	return api.BulkBook{
		Holds: [3]api.Span{to(3, 4), to(8, 9), to(5, 6)}, Error: [3]int{1, 0, 0},
		Lots: []api.BulkLot{{Told: [3]int{10, 4, 6}, Waste: to(1, 3)}, {Told: [3]int{20, api.BulkNone, 12}, Waste: to(0, 2)}},
	}
}

// casks is a bulk of lots of which so many hogsheads were told each, all within so many.
func casks(within int, told ...int) api.BulkBook {
	b := api.BulkBook{Holds: [3]api.Span{just(4), just(9), just(6)}, Error: [3]int{0, 0, within}}
	for _, many := range told {
		b.Lots = append(b.Lots, api.BulkLot{Told: [3]int{api.BulkNone, api.BulkNone, many}})
	}
	return b
}

// carried is a bulk of one lot of so many barrows of 4, whose hogsheads hold 5 or 6.
func carried(barrows int) api.BulkBook {
	b := casks(0, api.BulkNone)
	b.Holds[api.BulkCask] = to(5, 6)
	b.Lots[0].Told[api.BulkBarrow] = barrows
	return b
}

func day(draw int, cured api.BulkBook, left int) api.SaltDay {
	return api.SaltDay{Draw: draw, Bulk: cured, Left: left}
}

// book is that of the chapter's examples, after some changes.
func book(changes ...func(b *api.SaltBook)) api.SaltBook {
	return with(plain(to(10, 12), to(2, 3), day(40, cellar(), none), day(20, casks(1, 4), none)), changes...)
}

// with is a book after some changes.
func with(b api.SaltBook, changes ...func(b *api.SaltBook)) api.SaltBook {
	b.Days = slices.Clone(b.Days)
	for i := range b.Days {
		b.Days[i].Bulk.Lots = slices.Clone(b.Days[i].Bulk.Lots)
	}
	for _, change := range changes {
		change(&b)
	}
	return b
}

func start(low, high int) func(b *api.SaltBook) {
	return func(b *api.SaltBook) { b.Start = to(low, high) }
}

func takes(low, high int) func(b *api.SaltBook) {
	return func(b *api.SaltBook) { b.Takes = to(low, high) }
}

func draw(day, bushels int) func(b *api.SaltBook) {
	return func(b *api.SaltBook) { b.Days[day].Draw = bushels }
}

func left(day, bushels int) func(b *api.SaltBook) {
	return func(b *api.SaltBook) { b.Days[day].Left = bushels }
}

func cured(day int, by api.BulkBook) func(b *api.SaltBook) {
	return func(b *api.SaltBook) { b.Days[day].Bulk = by }
}

func days(all ...api.SaltDay) func(b *api.SaltBook) {
	return func(b *api.SaltBook) { b.Days = all }
}

// counted, short and much are the other books of the examples.
func counted() api.SaltBook { return book(left(1, 25)) }

func short() api.SaltBook { return book(left(1, 2)) }

func much() api.SaltBook { return book(start(20, 22)) }

// plain is a book of its parts.
func plain(start, takes api.Span, days ...api.SaltDay) api.SaltBook {
	return api.SaltBook{Start: start, Takes: takes, Days: days}
}

// steady is a book of days without draws, on each of which a single hogshead takes 2, with such counts.
func steady(start api.Span, counts ...int) api.SaltBook {
	b := plain(start, just(2))
	for _, count := range counts {
		b.Days = append(b.Days, day(0, casks(0, 1), count))
	}
	return b
}

// truth is the chapter's, as far as it is asked for: how many bushels are used on each day, and left at its end.
type truth struct{ used, left []int }

// uses are all numbers of bushels that can be used on each day, as the chapter says them.
func uses(b api.SaltBook) []map[int]bool {
	var all []map[int]bool
	for _, d := range b.Days {
		many, _ := bulk.Casks(d.Bulk)
		set := map[int]bool{}
		for n := many.Low; n <= many.High; n++ {
			for u := n * b.Takes.Low; u <= n*b.Takes.High; u++ {
				set[u] = true
			}
		}
		all = append(all, set)
	}
	return all
}

// mostUsed are the most bushels that can be used on each day.
func mostUsed(b api.SaltBook) []int {
	var all []int
	for _, d := range b.Days {
		many, _ := bulk.Casks(d.Bulk)
		all = append(all, many.High*b.Takes.High)
	}
	return all
}

// eachTruth goes through all truths of a book, whatever was counted. (The lists of a truth are good until the next one.)
func eachTruth(b api.SaltBook, visit func(x truth)) {
	all := uses(b)
	x := truth{make([]int, len(b.Days)), make([]int, len(b.Days))}
	var pass func(number, left int)
	pass = func(number, left int) {
		if number == len(b.Days) {
			visit(x)
			return
		}
		for used := range all[number] {
			if rest := left + b.Days[number].Draw - used; rest >= 0 {
				x.used[number], x.left[number] = used, rest
				pass(number+1, rest)
			}
		}
	}
	for n := b.Start.Low; n <= b.Start.High; n++ {
		pass(0, n)
	}
}

// falseDays are the days whose counts are not right in a truth.
func falseDays(b api.SaltBook, x truth) []int {
	var list []int
	for number, d := range b.Days {
		if d.Left != none && d.Left != x.left[number] {
			list = append(list, number)
		}
	}
	return list
}

// sight is what can be left and used on each day of a book that can be true.
type sight struct{ left, used []api.Span }

// blank is a sight of so many days of which nothing was seen yet.
func blank(days int) sight {
	nothing := []api.Span{to(1<<30, -1)}
	return sight{slices.Repeat(nothing, days), slices.Repeat(nothing, days)}
}

func widen(s *api.Span, number int) { *s = to(min(s.Low, number), max(s.High, number)) }

// slow is what is seen in all truths in which the counts are right, and whether there is one.
func slow(b api.SaltBook) (sight, bool) {
	s, is := blank(len(b.Days)), false
	eachTruth(b, func(x truth) {
		if len(falseDays(b, x)) > 0 {
			return
		}
		is = true
		for number := range b.Days {
			widen(&s.left[number], x.left[number])
			widen(&s.used[number], x.used[number])
		}
	})
	return s, is
}

// better tells whether a list is, as the chapter compares them.
func better(one, other []int) bool {
	return cmp.Or(cmp.Compare(len(one), len(other)), slices.Compare(one, other)) < 0
}

// slowWrong is the best list of days whose counts are false in a truth, and whether there is a truth.
func slowWrong(b api.SaltBook) ([]int, bool) {
	var best []int
	is := false
	eachTruth(b, func(x truth) {
		if list := falseDays(b, x); !is || better(list, best) {
			best, is = list, true
		}
	})
	return best, is
}

// slowGone is the least number of bushels that went elsewhere, on any days, and whether the counts can be right then.
func slowGone(b api.SaltBook) (int, bool) {
	gone := map[int]int{}
	for n := b.Start.Low; n <= b.Start.High; n++ {
		gone[n] = 0
	}
	for number, set := range uses(b) {
		d, next := b.Days[number], map[int]int{}
		for before, many := range gone {
			for used := range set {
				for rest := before + d.Draw - used; rest >= 0; rest-- {
					total := many + before + d.Draw - used - rest
					if other, is := next[rest]; (!is || total < other) && (d.Left == none || d.Left == rest) {
						next[rest] = total
					}
				}
			}
		}
		gone = next
	}
	least, is := 0, false
	for _, many := range gone {
		if !is || many < least {
			least, is = many, true
		}
	}
	return least, is
}

// slowEnough is the first day on which the salt is not enough, or -1, if so many are used on each day, and so many more drawn on one.
func slowEnough(b api.SaltBook, mosts []int, day, more int) int {
	left := b.Start.Low
	for number, most := range mosts {
		left += b.Days[number].Draw - most
		if number == day {
			left += more
		}
		if left < 0 {
			return number
		}
	}
	return -1
}

// slowMore is how many bushels more on a day let the salt be enough, or -1: it tries each number up to all that can be used.
func slowMore(b api.SaltBook, day int) int {
	mosts := mostUsed(b)
	all := 0
	for _, most := range mosts {
		all += most
	}
	for more := range all + 1 {
		if slowEnough(b, mosts, day, more) < 0 {
			return more
		}
	}
	return -1
}

// listsOf are all strictly increasing lists of numbers below one, the best first.
func listsOf(many int) [][]int {
	var all [][]int
	for set := range 1 << many {
		var list []int
		for number := range many {
			if set>>number&1 == 1 {
				list = append(list, number)
			}
		}
		all = append(all, list)
	}
	slices.SortFunc(all, func(one, other []int) int {
		return cmp.Or(cmp.Compare(len(one), len(other)), slices.Compare(one, other))
	})
	return all
}

// withoutCounts is a book as if the counts of some days were not made.
func withoutCounts(b api.SaltBook, list ...int) api.SaltBook {
	b = with(b)
	for _, number := range list {
		b.Days[number].Left = none
	}
	return b
}

// seen is what the package tells of all days of a book, and its first error.
func seen(b api.SaltBook) (sight, api.Errno) {
	s := blank(len(b.Days))
	var first, e api.Errno
	for number := range b.Days {
		s.left[number], e = salt.Left(b, number)
		first = cmp.Or(first, e)
		s.used[number], e = salt.Used(b, number)
		first = cmp.Or(first, e)
	}
	return s, first
}

// same tells whether two sights are so.
func (s sight) same(other sight) bool {
	return slices.Equal(s.left, other.left) && slices.Equal(s.used, other.used)
}

func inside(one, other api.Span) bool { return one.Low >= other.Low && one.High <= other.High }

// within tells whether all that can be by a sight can be by another one, too.
func (s sight) within(other sight) bool {
	return slices.EqualFunc(s.left, other.left, inside) && slices.EqualFunc(s.used, other.used, inside)
}

// sightOf is what is seen in a single truth.
func sightOf(x truth) sight {
	var s sight
	for number := range x.left {
		s.left, s.used = append(s.left, just(x.left[number])), append(s.used, just(x.used[number]))
	}
	return s
}

// results are those of all functions of a book.
func results(b api.SaltBook, day, rate int) []any {
	right, e1 := salt.Right(b)
	left, e2 := salt.Left(b, day)
	used, e3 := salt.Used(b, day)
	owes, e4 := salt.Owes(b, rate)
	enough, e5 := salt.Enough(b)
	more, e6 := salt.More(b, day)
	gone, e7 := salt.Gone(b)
	wrong, e8 := salt.Wrong(b)
	return []any{salt.Check(b), right, e1, left, e2, used, e3, owes, e4, enough, e5, more, e6, gone, e7, wrong, e8}
}

// errorsOf are the errors among results: those of Check, Right, Left, Used, Owes, Enough, More, Gone, Wrong.
func errorsOf(results []any) []api.Errno {
	var list []api.Errno
	for _, x := range results {
		if e, ok := x.(api.Errno); ok {
			list = append(list, e)
		}
	}
	return list
}

// chance is a source of books that is the same in each run.
func chance(seed uint64) *rand.Rand { return rand.New(rand.NewPCG(seed, 6)) }

// around is a span from one number to another in which a number lies, its ends no more than so far apart.
func around(r *rand.Rand, number, from, most, wide int) api.Span {
	apart := r.IntN(wide + 1)
	least := number - r.IntN(apart+1)
	return to(max(least, from), min(least+apart, most))
}

// near is a number that differs from another one by so many at most, and is one that a count can tell.
func near(r *rand.Rand, number, within int) int {
	return min(max(number+r.IntN(2*within+1)-within, 0), api.BulkCount)
}

// anyBulk is a bulk that can have so many hogsheads (40 at most), known within some.
func anyBulk(r *rand.Rand, many, within int) api.BulkBook {
	switch r.IntN(4) {
	case 0:
		half := r.IntN(many + 1)
		return casks(within/2, near(r, half, within/2), near(r, many-half, within/2))
	case 1:
		if b := carried(many*5/4 + 1); holds(b, many) {
			return b
		}
	}
	return casks(within, near(r, many, within))
}

// holds tells whether a bulk can have so many hogsheads, known well enough for a book.
func holds(b api.BulkBook, many int) bool {
	s, e := bulk.Casks(b)
	return e == api.OK && s.Low <= many && many <= s.High && s.High-s.Low <= api.SaltApart
}

// anyTrueBook is a valid book of so many days, all counts of which are right, and a truth of it. What is known of it is so much apart.
func anyTrueBook(r *rand.Rand, days, wide int) (api.SaltBook, truth) {
	var b api.SaltBook
	var x truth
	there := r.IntN([]int{10, 60, 201}[r.IntN(3)])
	takes := 1 + r.IntN(9)
	b.Start, b.Takes = around(r, there, 0, 200, min(wide, 20)), around(r, takes, 1, 9, min(wide, 3))
	for range days {
		many := r.IntN(min((there+200)/b.Takes.High, []int{3, 8, 40}[r.IntN(3)]) + 1)
		used := many*b.Takes.Low + r.IntN(many*(b.Takes.High-b.Takes.Low)+1)
		drawn := min(max(used-there, 0)+r.IntN([]int{1, 5, 40, 200}[r.IntN(4)]), 200)
		there += drawn - used
		d := day(drawn, anyBulk(r, many, r.IntN(min(wide, 6)+1)), there)
		if r.IntN(2) == 0 {
			d.Left = none
		}
		b.Days = append(b.Days, d)
		x.used, x.left = append(x.used, used), append(x.left, there)
	}
	return b, x
}

// spoil changes some of the counts and the draws of a book.
func spoil(r *rand.Rand, b *api.SaltBook) {
	for number := range b.Days {
		d := &b.Days[number]
		switch r.IntN(8) {
		case 0:
			d.Left = r.IntN(60)
		case 1:
			d.Left = min(max(d.Left, 0)+r.IntN(4), api.SaltLeft)
		case 2:
			d.Left = max(d.Left-r.IntN(6), 0)
		case 3:
			d.Draw = max(d.Draw-r.IntN(9), 0)
		}
	}
}

// anyBook is a valid book of so many days, some of whose counts may be false.
func anyBook(r *rand.Rand, days, wide int) api.SaltBook {
	b, _ := anyTrueBook(r, days, wide)
	spoil(r, &b)
	return b
}

// fewTruths tells whether all truths of a book can be gone through soon.
func fewTruths(b api.SaltBook) bool {
	many := b.Start.High - b.Start.Low + 1
	for _, set := range uses(b) {
		many *= len(set)
	}
	return many <= 20000
}

// smallBook is a valid book, some of whose counts may be false, all truths of which can be gone through soon.
func smallBook(r *rand.Rand) api.SaltBook {
	for {
		if b := anyBook(r, 1+r.IntN(6), r.IntN(6)); fewTruths(b) {
			return b
		}
	}
}
