package press_test

import (
	"cmp"
	"math/rand/v2"
	"slices"

	"huer/api"
	"huer/bulk"
	"huer/press"
)

// none is what was measured of a bail that was not, and what a count tells that was not made.
const none = api.PressNone

// days is how many there are.
const days = api.PressDay + 1

func to(low, high int) api.Span { return api.Span{Low: low, High: high} }

func just(number int) api.Span { return to(number, number) }

// casks is a bulk of lots of which so many hogsheads were told each, all within so many.
func casks(within int, told ...int) api.BulkBook {
	b := api.BulkBook{Holds: [3]api.Span{just(4), just(9), just(6)}, Error: [3]int{0, 0, within}}
	for _, many := range told {
		b.Lots = append(b.Lots, api.BulkLot{Told: [3]int{none, none, many}})
	}
	return b
}

// carried is a bulk of lots of so many barrows of 4 each, whose hogsheads hold 5 or 6.
func carried(barrows ...int) api.BulkBook {
	b := casks(0, barrows...)
	b.Holds[api.BulkCask] = to(5, 6)
	for lot := range b.Lots {
		told := &b.Lots[lot].Told
		told[api.BulkBarrow], told[api.BulkCask] = told[api.BulkCask], none
	}
	return b
}

func bail(pit, day, told int) api.PressBail { return api.PressBail{Pit: pit, Day: day, Told: told} }

func run(pit, day int) api.PressRun { return api.PressRun{Pit: pit, Day: day} }

// book is that of the chapter's examples, after some changes.
func book(changes ...func(b *api.PressBook)) api.PressBook {
	return with(api.PressBook{
		Bulk: casks(1, 4, 6), Gives: []api.Span{to(3, 4), to(1, 2)}, Runs: []api.PressRun{run(0, 0), run(0, 1)},
		Pits: []int{30, 20}, Bails: []api.PressBail{bail(0, 1, none)},
	}, changes...)
}

// with is a book after some changes.
func with(b api.PressBook, changes ...func(b *api.PressBook)) api.PressBook {
	b.Bulk.Lots, b.Gives, b.Runs = slices.Clone(b.Bulk.Lots), slices.Clone(b.Gives), slices.Clone(b.Runs)
	b.Pits, b.Bails = slices.Clone(b.Pits), slices.Clone(b.Bails)
	for _, change := range changes {
		change(&b)
	}
	return b
}

func cellar(by api.BulkBook) func(b *api.PressBook) {
	return func(b *api.PressBook) { b.Bulk = by }
}

func gives(all ...api.Span) func(b *api.PressBook) {
	return func(b *api.PressBook) { b.Gives = all }
}

func give(day, low, high int) func(b *api.PressBook) {
	return func(b *api.PressBook) { b.Gives[day] = to(low, high) }
}

func runs(all ...api.PressRun) func(b *api.PressBook) {
	return func(b *api.PressBook) { b.Runs = all }
}

func pits(all ...int) func(b *api.PressBook) { return func(b *api.PressBook) { b.Pits = all } }

func room(pit, gallons int) func(b *api.PressBook) {
	return func(b *api.PressBook) { b.Pits[pit] = gallons }
}

func bails(all ...api.PressBail) func(b *api.PressBook) {
	return func(b *api.PressBook) { b.Bails = all }
}

func told(bail, gallons int) func(b *api.PressBook) {
	return func(b *api.PressBook) { b.Bails[bail].Told = gallons }
}

// measured and low are the other books of the examples.
func measured() api.PressBook { return book(told(0, 28)) }

func low() api.PressBook { return book(told(0, 5)) }

// plain is a book of one lot of so many hogsheads, pressed from the day 0 on into a single pit of such a room.
func plain(many, room int, gives []api.Span, bails ...api.PressBail) api.PressBook {
	return api.PressBook{Bulk: casks(0, many), Gives: gives, Runs: []api.PressRun{run(0, 0)}, Pits: []int{room}, Bails: bails}
}

// stream is a list of what a hogshead gives on its days.
func stream(all ...api.Span) []api.Span { return all }

// counts are the hogsheads that each lot can have by the Bulk.
func counts(b api.PressBook) []api.Span {
	var list []api.Span
	for lot := range b.Bulk.Lots {
		many, _ := bulk.Count(b.Bulk, lot, api.BulkCask)
		list = append(list, many)
	}
	return list
}

// eachCellar goes through all numbers of hogsheads that the lots can have. (The list is good until the next one.)
func eachCellar(b api.PressBook, visit func(many []int)) {
	all := counts(b)
	many := make([]int, len(all))
	var fill func(lot int)
	fill = func(lot int) {
		if lot == len(all) {
			visit(many)
			return
		}
		for many[lot] = all[lot].Low; many[lot] <= all[lot].High; many[lot]++ {
			fill(lot + 1)
		}
	}
	fill(0)
}

// inflows are all amounts that can run into a pit on a day: each lot gives what it can by itself.
func inflows(b api.PressBook, many []int, pit, day int) []int {
	all := map[int]bool{0: true}
	for lot, run := range b.Runs {
		on := day - run.Day
		if run.Pit != pit || on < 0 || on >= len(b.Gives) {
			continue
		}
		next := map[int]bool{}
		for before := range all {
			for given := many[lot] * b.Gives[on].Low; given <= many[lot]*b.Gives[on].High; given++ {
				next[before+given] = true
			}
		}
		all = next
	}
	var list []int
	for one := range all {
		list = append(list, one)
	}
	return list
}

// bailOf is the bail of a pit on a day, if there is one.
func bailOf(b api.PressBook, pit, day int) (api.PressBail, bool) {
	for _, one := range b.Bails {
		if one.Pit == pit && one.Day == day {
			return one, true
		}
	}
	return api.PressBail{}, false
}

// watched is what can become of a pit: with which amounts each day can end, and whether it can run over on it, or not.
type watched struct {
	can       [days][api.PressRoom + 1]bool
	over, dry [days]bool
}

// watch is what can become of a pit if lots have so many hogsheads, in all truths in which its measures are right, and whether there is one. It goes from day to day.
func watch(b api.PressBook, many []int, pit int) (watched, bool) {
	var w watched
	var known [days + 1][api.PressRoom + 1]int // 1: the measures can be right from there on, 2: they cannot
	var given [days][]int
	for day := range days {
		given[day] = inflows(b, many, pit, day)
	}
	var goesOn func(day, there int) bool
	goesOn = func(day, there int) bool {
		if day == days {
			return true
		}
		if known[day][there] != 0 {
			return known[day][there] == 1
		}
		known[day][there] = 2
		one, bailed := bailOf(b, pit, day)
		for _, in := range given[day] {
			now, over := there+in, false
			if now > b.Pits[pit] {
				now, over = b.Pits[pit], true
			}
			if bailed && one.Told != none && one.Told != now {
				continue
			}
			next := now
			if bailed {
				next = 0
			}
			if !goesOn(day+1, next) {
				continue
			}
			known[day][there] = 1
			w.can[day][now] = true
			if over {
				w.over[day] = true
			} else {
				w.dry[day] = true
			}
		}
		return known[day][there] == 1
	}
	return w, goesOn(0, 0)
}

// add adds what else can become of a pit.
func (w *watched) add(other watched) {
	for day := range days {
		for gallons, is := range other.can[day] {
			w.can[day][gallons] = w.can[day][gallons] || is
		}
		w.over[day], w.dry[day] = w.over[day] || other.over[day], w.dry[day] || other.dry[day]
	}
}

// span is what can be in a pit at the end of a day, at least and at most.
func (w *watched) span(day int) api.Span {
	s := to(1<<30, -1)
	for gallons, is := range w.can[day] {
		if is {
			s = to(min(s.Low, gallons), max(s.High, gallons))
		}
	}
	return s
}

// spill is what Spill tells of a day.
func (w *watched) spill(day int) int {
	switch {
	case !w.over[day]:
		return 0
	case w.dry[day]:
		return 1
	}
	return 2
}

// sight is all that is seen of a book that can be true: the hogsheads of lots, and what can become of pits.
type sight struct {
	casks []api.Span
	pits  []watched
}

// slow is what is seen in all truths of a book, and whether there is one.
func slow(b api.PressBook) (sight, bool) {
	s, is := sight{casks: slices.Repeat([]api.Span{to(1<<30, -1)}, len(b.Runs)), pits: make([]watched, len(b.Pits))}, false
	eachCellar(b, func(many []int) {
		var all []watched
		for pit := range b.Pits {
			w, ok := watch(b, many, pit)
			if !ok {
				return
			}
			all = append(all, w)
		}
		is = true
		for pit := range all {
			s.pits[pit].add(all[pit])
		}
		for lot, n := range many {
			s.casks[lot] = to(min(s.casks[lot].Low, n), max(s.casks[lot].High, n))
		}
	})
	return s, is
}

// isTrue tells whether a book has a truth.
func isTrue(b api.PressBook) bool {
	_, is := slow(b)
	return is
}

// slowYield is what so many hogsheads can give on all days.
func slowYield(b api.PressBook, lot int, many api.Span) api.Span {
	var s api.Span
	for day := range days {
		if on := day - b.Runs[lot].Day; on >= 0 && on < len(b.Gives) {
			s = to(s.Low+many.Low*b.Gives[on].Low, s.High+many.High*b.Gives[on].High)
		}
	}
	return s
}

// listsOf are all strictly increasing lists of numbers below one, the best first.
func listsOf(many int) [][]int {
	var all [][]int
	for set := range 1 << many {
		var list []int
		for number := range many {
			if set>>number&1 == 1 {
				list = append(list, number)
			}
		}
		all = append(all, list)
	}
	slices.SortFunc(all, func(one, other []int) int {
		return cmp.Or(cmp.Compare(len(one), len(other)), slices.Compare(one, other))
	})
	return all
}

// without is a book as if the measures of some bails were not made.
func without(b api.PressBook, list ...int) api.PressBook {
	b = with(b)
	for _, number := range list {
		b.Bails[number].Told = none
	}
	return b
}

// unmeasured is a book as if no measure was made.
func unmeasured(b api.PressBook) api.PressBook {
	return without(b, []int{0, 1, 2, 3, 4, 5}[:len(b.Bails)]...)
}

// slowWrong is the best list of bails without whose measures there is a truth.
func slowWrong(b api.PressBook) []int {
	for _, list := range listsOf(len(b.Bails)) {
		if isTrue(without(b, list...)) {
			return list
		}
	}
	panic("no book is false without measures")
}

// results are those of all functions of a book.
func results(b api.PressBook, lot, pit, day, gallons int) []any {
	right, e1 := press.Right(b)
	casks, e2 := press.Casks(b, lot)
	yield, e3 := press.Yield(b, lot)
	held, e4 := press.Pit(b, pit, day)
	can, e5 := press.Can(b, pit, day, gallons)
	spill, e6 := press.Spill(b, pit, day)
	over, e7 := press.Over(b, pit)
	wrong, e8 := press.Wrong(b)
	return []any{press.Check(b), right, e1, casks, e2, yield, e3, held, e4, can, e5, spill, e6, over, e7, wrong, e8}
}

// errorsOf are the errors among results: those of Check, Right, Casks, Yield, Pit, Can, Spill, Over, Wrong.
func errorsOf(results []any) []api.Errno {
	var list []api.Errno
	for _, x := range results {
		if e, ok := x.(api.Errno); ok {
			list = append(list, e)
		}
	}
	return list
}

func inside(one, other api.Span) bool { return one.Low >= other.Low && one.High <= other.High }

// chance is a source of books that is the same in each run.
func chance(seed uint64) *rand.Rand { return rand.New(rand.NewPCG(seed, 10)) }

// within is a number that a span contains.
func within(r *rand.Rand, s api.Span) int { return s.Low + r.IntN(s.High-s.Low+1) }

// anyGive is what a hogshead can give in a day.
func anyGive(r *rand.Rand, wide int) api.Span {
	apart := r.IntN(wide + 1)
	least := r.IntN(api.PressGives - apart + 1)
	if r.IntN(4) == 0 {
		least = 0
	}
	return to(least, least+apart)
}

// anyCellar is a bulk of so many lots, each of which has so many hogsheads at most, known within some.
func anyCellar(r *rand.Rand, lots, most, apart int) api.BulkBook {
	var told, barrows []int
	for range lots {
		many := r.IntN(most + 1)
		told, barrows = append(told, many), append(barrows, many*3/2)
	}
	if r.IntN(5) == 0 && apart > 0 && most < 20 {
		return carried(barrows...)
	}
	return casks(apart, told...)
}

// anyBails are some bails, of which nothing was measured.
func anyBails(r *rand.Rand, pits int) []api.PressBail {
	var all []api.PressBail
	for range r.IntN(api.PressBails + 1) {
		one := bail(r.IntN(pits), r.IntN(days), none)
		if r.IntN(2) == 0 {
			one = bail(0, r.IntN(6), none) // where more runs, and more is told together
		}
		if !slices.Contains(all, one) {
			all = append(all, one)
		}
	}
	slices.SortStableFunc(all, func(one, other api.PressBail) int { return cmp.Compare(one.Day, other.Day) })
	return all
}

// scale is how large the numbers of a book are: its lots, the hogsheads of each, within how many these are known, and how far the ends of the Gives are apart.
type scale struct{ lots, most, apart, wide int }

// ordinary is any scale.
func ordinary(r *rand.Rand) scale {
	return scale{lots: min(r.IntN(6), 4), most: []int{2, 6, 15, 40}[r.IntN(4)], apart: r.IntN(4), wide: r.IntN(4)}
}

// anyShape is a valid book without measures.
func anyShape(r *rand.Rand, s scale) api.PressBook {
	b := api.PressBook{Bulk: anyCellar(r, s.lots, s.most, s.apart)}
	for range 1 + r.IntN(api.PressLong) {
		b.Gives = append(b.Gives, anyGive(r, s.wide))
	}
	for range 1 + r.IntN(api.PressPits) {
		b.Pits = append(b.Pits, r.IntN([]int{10, 60, 150, api.PressRoom + 1}[r.IntN(4)]))
	}
	for range s.lots {
		one := run(r.IntN(len(b.Pits)), r.IntN(days))
		if r.IntN(2) == 0 {
			one = run(0, r.IntN(4))
		}
		b.Runs = append(b.Runs, one)
	}
	b.Bails = anyBails(r, len(b.Pits))
	return b
}

// truth is a single one: the hogsheads of lots, what each lot gives altogether, what is in pits at the end of all days, and when they run over.
type truth struct {
	casks, yields []int
	held          [api.PressPits][days]int
	over          [api.PressPits][days]bool
}

// play is a truth of a book without measures.
func play(r *rand.Rand, b api.PressBook) truth {
	x := truth{yields: make([]int, len(b.Runs))}
	for _, many := range counts(b) {
		x.casks = append(x.casks, within(r, many))
	}
	var there [api.PressPits]int
	for day := range days {
		for lot, run := range b.Runs {
			if on := day - run.Day; on >= 0 && on < len(b.Gives) {
				given := within(r, to(x.casks[lot]*b.Gives[on].Low, x.casks[lot]*b.Gives[on].High))
				x.yields[lot] += given
				there[run.Pit] += given
			}
		}
		for pit, room := range b.Pits {
			if there[pit] > room {
				there[pit], x.over[pit][day] = room, true
			}
			x.held[pit][day] = there[pit]
			if _, is := bailOf(b, pit, day); is {
				there[pit] = 0
			}
		}
	}
	return x
}

// anyTrueBook is a valid book, all measures of which are right, and a truth of it.
func anyTrueBook(r *rand.Rand, s scale) (api.PressBook, truth) {
	b := anyShape(r, s)
	x := play(r, b)
	for i, one := range b.Bails {
		if r.IntN(3) > 0 {
			b.Bails[i].Told = x.held[one.Pit][one.Day]
		}
	}
	return b, x
}

// spoil changes some of the measures of a book.
func spoil(r *rand.Rand, b *api.PressBook) {
	for i := range b.Bails {
		told := &b.Bails[i].Told
		switch r.IntN(14) {
		case 0:
			*told = r.IntN(60)
		case 1:
			*told = min(max(*told, 0)+1+r.IntN(9), api.PressRoom)
		case 2:
			*told = max(*told-1-r.IntN(9), 0)
		case 3:
			*told = b.Pits[b.Bails[i].Pit]
		}
	}
}

// anyBook is a valid book, some of whose measures may be false.
func anyBook(r *rand.Rand, s scale) api.PressBook {
	b, _ := anyTrueBook(r, s)
	spoil(r, &b)
	return b
}

// smallBook is a valid book, some of whose measures may be false, all truths of which can be gone through soon.
func smallBook(r *rand.Rand) api.PressBook {
	for {
		b := anyBook(r, ordinary(r))
		cellars := 1
		for _, many := range counts(b) {
			cellars *= many.High - many.Low + 1
		}
		if cellars <= 60 {
			return b
		}
	}
}
