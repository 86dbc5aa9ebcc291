package bulk_test

import (
	"cmp"
	"math/rand/v2"
	"slices"

	"huer/api"
	"huer/bulk"
)

// none is what a count tells that was not made.
const none = api.BulkNone

func to(low, high int) api.Span { return api.Span{Low: low, High: high} }

func just(number int) api.Span { return to(number, number) }

func lot(waste api.Span, barrows, rows, casks int) api.BulkLot {
	return api.BulkLot{Told: [3]int{barrows, rows, casks}, Waste: waste}
}

// book is that of the chapter's examples, after some changes.
func book(changes ...func(b *api.BulkBook)) api.BulkBook {
	return with(api.BulkBook{
		Holds: [3]api.Span{to(3, 4), to(8, 9), to(5, 6)}, Error: [3]int{1, 0, 0},
		Lots: []api.BulkLot{lot(to(1, 3), 10, 4, 6), lot(to(0, 2), 20, none, 12)},
	}, changes...)
}

// with is a book after some changes.
func with(b api.BulkBook, changes ...func(b *api.BulkBook)) api.BulkBook {
	b.Lots = slices.Clone(b.Lots)
	for _, change := range changes {
		change(&b)
	}
	return b
}

func told(lot, kind, many int) func(b *api.BulkBook) {
	return func(b *api.BulkBook) { b.Lots[lot].Told[kind] = many }
}

func waste(lot, low, high int) func(b *api.BulkBook) {
	return func(b *api.BulkBook) { b.Lots[lot].Waste = to(low, high) }
}

func holds(kind, low, high int) func(b *api.BulkBook) {
	return func(b *api.BulkBook) { b.Holds[kind] = to(low, high) }
}

func wrongBy(kind, many int) func(b *api.BulkBook) {
	return func(b *api.BulkBook) { b.Error[kind] = many }
}

func lots(all ...api.BulkLot) func(b *api.BulkBook) {
	return func(b *api.BulkBook) { b.Lots = all }
}

// rowed and torn are the other books of the examples.
func rowed() api.BulkBook { return book(told(1, api.BulkRow, 9)) }

func torn() api.BulkBook { return book(told(1, api.BulkBarrow, 30)) }

// plain is a book whose barrows hold 4, rows 9 and hogsheads 6, without errors.
func plain(all ...api.BulkLot) api.BulkBook {
	return api.BulkBook{Holds: [3]api.Span{just(4), just(9), just(6)}, Lots: all}
}

// truth is the chapter's: what a measure of each kind holds, and the fish and the waste of each lot.
type truth struct {
	measures    [3]int
	fish, waste []int
}

// fills has, for all that a measure can hold, and for each amount of fish, the least number of measures that is enough.
var fills = func() (table [10][401]int) {
	for holds := 1; holds <= 9; holds++ {
		for fish := range 401 {
			many := 0
			for many*holds < fish {
				many++
			}
			table[holds][fish] = many
		}
	}
	return table
}()

// counts are the true numbers of measures of all kinds.
func counts(measures [3]int, fish, waste int) [3]int {
	return [3]int{fills[measures[0]][fish], fills[measures[1]][fish], fills[measures[2]][fish-waste]}
}

// allMeasures are all that measures of each kind can hold.
func allMeasures(b api.BulkBook) [][3]int {
	var all [][3]int
	for barrow := b.Holds[0].Low; barrow <= b.Holds[0].High; barrow++ {
		for row := b.Holds[1].Low; row <= b.Holds[1].High; row++ {
			for cask := b.Holds[2].Low; cask <= b.Holds[2].High; cask++ {
				all = append(all, [3]int{barrow, row, cask})
			}
		}
	}
	return all
}

// faults are the kinds whose counts are not right, as a set of bits.
func faults(b api.BulkBook, l api.BulkLot, counts [3]int) int {
	set := 0
	for kind, told := range l.Told {
		if told != none && (told-counts[kind] > b.Error[kind] || counts[kind]-told > b.Error[kind]) {
			set |= 1 << kind
		}
	}
	return set
}

// eachLoad goes through the fish and the waste that a lot can have, and says which counts are not right then.
func eachLoad(b api.BulkBook, measures [3]int, l api.BulkLot, visit func(fish, waste, faults int)) {
	for fish := 0; fish <= 400; fish++ {
		for waste := l.Waste.Low; waste <= l.Waste.High && waste <= fish; waste++ {
			visit(fish, waste, faults(b, l, counts(measures, fish, waste)))
		}
	}
}

// sight is all that is told of a book that can be true.
type sight struct {
	holds        [3]api.Span
	fish, packed []api.Span
	counts       [][3]api.Span
	total, casks api.Span
}

// nothing is a span in which no number lies.
func nothing() api.Span { return to(1<<30, -1) }

// blank is a sight of so many lots of which nothing was seen yet.
func blank(lots int) sight {
	three := [3]api.Span{nothing(), nothing(), nothing()}
	return sight{
		holds: three, fish: slices.Repeat([]api.Span{nothing()}, lots), packed: slices.Repeat([]api.Span{nothing()}, lots), counts: slices.Repeat([][3]api.Span{three}, lots),
		total: nothing(), casks: nothing(),
	}
}

func widen(s *api.Span, number int) { *s = to(min(s.Low, number), max(s.High, number)) }

// both is the closest span in which two lie.
func both(one, other api.Span) api.Span {
	return to(min(one.Low, other.Low), max(one.High, other.High))
}

// add widens a sight by another one.
func (s *sight) add(other sight) {
	for kind := range s.holds {
		s.holds[kind] = both(s.holds[kind], other.holds[kind])
	}
	for i := range s.fish {
		s.fish[i], s.packed[i] = both(s.fish[i], other.fish[i]), both(s.packed[i], other.packed[i])
		for kind := range s.counts[i] {
			s.counts[i][kind] = both(s.counts[i][kind], other.counts[i][kind])
		}
	}
	s.total, s.casks = both(s.total, other.total), both(s.casks, other.casks)
}

// sums are all numbers that are one of each of some sets together.
func sums(sets []map[int]bool) api.Span {
	all := map[int]bool{0: true}
	for _, set := range sets {
		next := map[int]bool{}
		for one := range all {
			for other := range set {
				next[one+other] = true
			}
		}
		all = next
	}
	result := nothing()
	for number := range all {
		widen(&result, number)
	}
	return result
}

// slowOf is what is told of all truths in which measures hold just so much, if there is one.
func slowOf(b api.BulkBook, measures [3]int) (sight, bool) {
	s := blank(len(b.Lots))
	var fish, casks []map[int]bool
	for i, l := range b.Lots {
		some, filled := map[int]bool{}, map[int]bool{}
		eachLoad(b, measures, l, func(fish, waste, faults int) {
			if faults != 0 {
				return
			}
			many := counts(measures, fish, waste)
			some[fish], filled[many[2]] = true, true
			widen(&s.fish[i], fish)
			widen(&s.packed[i], fish-waste)
			for kind := range many {
				widen(&s.counts[i][kind], many[kind])
			}
		})
		if len(some) == 0 {
			return sight{}, false
		}
		fish, casks = append(fish, some), append(casks, filled)
	}
	for kind, holds := range measures {
		s.holds[kind] = just(holds)
	}
	s.total, s.casks = sums(fish), sums(casks)
	return s, true
}

// slow is what is told of each of the measures with which there are truths.
func slow(b api.BulkBook) map[[3]int]sight {
	all := map[[3]int]sight{}
	for _, measures := range allMeasures(b) {
		if s, ok := slowOf(b, measures); ok {
			all[measures] = s
		}
	}
	return all
}

// slowSight is what is told of all truths.
func slowSight(b api.BulkBook, all map[[3]int]sight) sight {
	result := blank(len(b.Lots))
	for _, s := range all {
		result.add(s)
	}
	return result
}

// slowWeigh is the kind that the chapter calls the best one to know.
func slowWeigh(all map[[3]int]sight) int {
	var worst [3]int
	for kind := range worst {
		for holds := range 10 {
			total := nothing()
			for measures, s := range all {
				if measures[kind] == holds {
					total = both(total, s.total)
				}
			}
			worst[kind] = max(worst[kind], total.High-total.Low)
		}
	}
	return slices.Index(worst[:], slices.Min(worst[:]))
}

// slowWrong is the list of counts that the chapter says: the first of all lists, the shortest first, without which there is a truth.
func slowWrong(b api.BulkBook) []int {
	var can [][][8]bool // by which faults each lot can be, for all measures
	for _, measures := range allMeasures(b) {
		sets := make([][8]bool, len(b.Lots))
		for i, l := range b.Lots {
			eachLoad(b, measures, l, func(_, _, faults int) { sets[i][faults] = true })
		}
		can = append(can, sets)
	}
	isTrue := func(sets [][8]bool, list []int) bool {
		left := make([]int, len(sets))
		for _, number := range list {
			left[number/3] |= 1 << (number % 3)
		}
		for i, set := range sets {
			if !slices.ContainsFunc([]int{0, 1, 2, 3, 4, 5, 6, 7}, func(faults int) bool { return set[faults] && faults&^left[i] == 0 }) {
				return false
			}
		}
		return true
	}
	for _, list := range listsOf(3 * len(b.Lots)) {
		if slices.ContainsFunc(can, func(sets [][8]bool) bool { return isTrue(sets, list) }) {
			return list
		}
	}
	return []int{-1}
}

// listsOf are all strictly increasing lists of numbers below one, the shortest and then the first one first.
func listsOf(many int) [][]int {
	var all [][]int
	for set := range 1 << many {
		var list []int
		for number := range many {
			if set>>number&1 == 1 {
				list = append(list, number)
			}
		}
		all = append(all, list)
	}
	slices.SortFunc(all, func(one, other []int) int {
		return cmp.Or(cmp.Compare(len(one), len(other)), slices.Compare(one, other))
	})
	return all
}

// seen is what the package tells of a book, and its first error.
func seen(b api.BulkBook) (sight, api.Errno) {
	s := blank(len(b.Lots))
	var first, e api.Errno
	for kind := range s.holds {
		s.holds[kind], e = bulk.Holds(b, kind)
		first = cmp.Or(first, e)
	}
	for i := range b.Lots {
		s.fish[i], e = bulk.Fish(b, i)
		first = cmp.Or(first, e)
		s.packed[i], e = bulk.Packed(b, i)
		first = cmp.Or(first, e)
		for kind := range s.counts[i] {
			s.counts[i][kind], e = bulk.Count(b, i, kind)
			first = cmp.Or(first, e)
		}
	}
	s.total, e = bulk.Total(b)
	first = cmp.Or(first, e)
	s.casks, e = bulk.Casks(b)
	return s, cmp.Or(first, e)
}

// spans are all spans of a sight.
func (s sight) spans() []api.Span {
	list := append(slices.Clone(s.holds[:]), s.total, s.casks)
	list = append(append(list, s.fish...), s.packed...)
	for _, three := range s.counts {
		list = append(list, three[:]...)
	}
	return list
}

// same tells whether two sights are so.
func (s sight) same(other sight) bool { return slices.Equal(s.spans(), other.spans()) }

// within tells whether all that is told by a sight is told by another one, too.
func (s sight) within(other sight) bool {
	wide := other.spans()
	for i, one := range s.spans() {
		if one.Low < wide[i].Low || one.High > wide[i].High {
			return false
		}
	}
	return true
}

// results are those of all functions of a book.
func results(b api.BulkBook, lot, kind int) []any {
	right, e1 := bulk.Right(b)
	holds, e2 := bulk.Holds(b, kind)
	fish, e3 := bulk.Fish(b, lot)
	packed, e4 := bulk.Packed(b, lot)
	count, e5 := bulk.Count(b, lot, kind)
	total, e6 := bulk.Total(b)
	casks, e7 := bulk.Casks(b)
	weigh, e8 := bulk.Weigh(b)
	wrong, e9 := bulk.Wrong(b)
	return []any{bulk.Check(b), right, e1, holds, e2, fish, e3, packed, e4, count, e5, total, e6, casks, e7, weigh, e8, wrong, e9}
}

// errorsOf are the errors among results: those of Check, Right, Holds, Fish, Packed, Count, Total, Casks, Weigh, Wrong.
func errorsOf(results []any) []api.Errno {
	var list []api.Errno
	for _, x := range results {
		if e, ok := x.(api.Errno); ok {
			list = append(list, e)
		}
	}
	return list
}

// chance is a source of books that is the same in each run.
func chance(seed uint64) *rand.Rand { return rand.New(rand.NewPCG(seed, 5)) }

// around is a span from one number to another in which a number lies, its ends no more than so far apart.
func around(r *rand.Rand, number, from, most, wide int) api.Span {
	apart := r.IntN(wide + 1)
	least := number - r.IntN(apart+1)
	return to(max(least, from), min(least+apart, most))
}

// rightCount is what a count can tell of a true number: perhaps that it was not made.
func rightCount(r *rand.Rand, many, wrongBy int) int {
	told := many + r.IntN(2*wrongBy+1) - wrongBy
	if r.IntN(3) == 0 || told < 0 || told > 40 {
		return none
	}
	return told
}

// anyTrueBook is a valid book, with at most so many lots, and a truth of it by which it was counted.
func anyTrueBook(r *rand.Rand, most int) (api.BulkBook, truth) {
	var b api.BulkBook
	var x truth
	for kind := range 3 {
		x.measures[kind] = 1 + r.IntN(9)
		b.Holds[kind] = around(r, x.measures[kind], 1, 9, r.IntN(4))
		b.Error[kind] = r.IntN(1 + []int{0, 0, 1, 3, 9}[r.IntN(5)])
	}
	for range r.IntN(most + 1) {
		fish := r.IntN([]int{8, 60, 200, 401}[r.IntN(4)])
		waste := r.IntN(min(fish, 20) + 1)
		many := counts(x.measures, fish, waste)
		l := api.BulkLot{Waste: around(r, waste, 0, 20, r.IntN(6))}
		for kind := range 3 {
			l.Told[kind] = rightCount(r, many[kind], b.Error[kind])
		}
		b.Lots = append(b.Lots, l)
		x.fish, x.waste = append(x.fish, fish), append(x.waste, waste)
	}
	return b, x
}

// rightBook is a valid one that can be true.
func rightBook(r *rand.Rand, most int) api.BulkBook {
	b, _ := anyTrueBook(r, most)
	return b
}

// anyBook is a valid one, with counts of which some may be false.
func anyBook(r *rand.Rand, most int) api.BulkBook {
	b := rightBook(r, most)
	for i := range b.Lots {
		for kind := range 3 {
			switch r.IntN(6) {
			case 0:
				b.Lots[i].Told[kind] = r.IntN(41)
			case 1:
				b.Lots[i].Told[kind] = min(max(b.Lots[i].Told[kind], 0)+r.IntN(3), 40)
			}
		}
	}
	return b
}
