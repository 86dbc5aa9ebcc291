package press_test

import (
	"math"
	"math/rand/v2"
	"reflect"
	"slices"
	"testing"

	"huer/api"
	"huer/press"
)

// rounds is how many books each test of a property tries.
const rounds = 300

// TestAgainstSlow is of P10.1 to P10.6: all that is told is so in a truth, and no truth has less or more.
func TestAgainstSlow(t *testing.T) {
	r := chance(1)
	rights := 0
	var spills [3]int
	for range rounds {
		b := smallBook(r)
		want, right := slow(b)
		is, e := press.Right(b)
		if is != right || e != api.OK {
			t.Fatalf("Right of %v: %v, %d", b, is, e)
		}
		if !right {
			for f, e := range errorsOf(results(b, 0, 0, 0, 0))[4:8] {
				if e != api.ErrPressFalse {
					t.Fatalf("%v cannot be true, but the function %d: %d", b, f+4, e)
				}
			}
			continue
		}
		rights++
		for lot, many := range want.casks {
			if s, e := press.Casks(b, lot); s != many || e != api.OK {
				t.Fatalf("Casks of %v, %d: %v, %d, not %v", b, lot, s, e, many)
			}
			if s, e := press.Yield(b, lot); s != slowYield(b, lot, many) || e != api.OK {
				t.Fatalf("Yield of %v, %d: %v, %d, not %v", b, lot, s, e, slowYield(b, lot, many))
			}
		}
		for pit := range b.Pits {
			agrees(t, r, b, pit, &want.pits[pit], &spills)
		}
	}
	if rights < rounds/4 || rights > rounds*9/10 || slices.Min(spills[:]) < rounds/4 {
		t.Errorf("of %d books %d can be true; so many days have so many spills: %v", rounds, rights, spills)
	}
}

// agrees checks what is told of a pit, and adds what spills it has.
func agrees(t *testing.T, r *rand.Rand, b api.PressBook, pit int, want *watched, spills *[3]int) {
	over, none := 0, api.ErrNone
	for day := range days {
		s, e := press.Pit(b, pit, day)
		if s != want.span(day) || e != api.OK {
			t.Fatalf("Pit %d of %v on %d: %v, %d, not %v", pit, b, day, s, e, want.span(day))
		}
		for _, gallons := range []int{max(s.Low-1, 0), within(r, s), min(s.High+1, api.PressRoom)} {
			if is, e := press.Can(b, pit, day, gallons); is != want.can[day][gallons] || e != api.OK {
				t.Fatalf("Can of the pit %d of %v on %d, %d: %v, %d", pit, b, day, gallons, is, e)
			}
		}
		n, e := press.Spill(b, pit, day)
		if n != want.spill(day) || e != api.OK {
			t.Fatalf("Spill of the pit %d of %v on %d: %d, %d, not %d", pit, b, day, n, e, want.spill(day))
		}
		spills[n]++
		if n > 0 && none != api.OK {
			over, none = day, api.OK
		}
	}
	if n, e := press.Over(b, pit); n != over || e != none {
		t.Fatalf("Over of the pit %d of %v: %d, %d, not %d, %d", pit, b, n, e, over, none)
	}
}

// TestWrongAgainstSlow is of P10.7: the list that follows, slowly, from the chapter's definition.
func TestWrongAgainstSlow(t *testing.T) {
	r := chance(2)
	var long [4]int
	for range rounds / 2 {
		b := smallBook(r)
		want := slowWrong(b)
		if l, e := press.Wrong(b); !slices.Equal(l, want) || e != api.OK {
			t.Fatalf("Wrong of %v: %v, %d, not %v", b, l, e, want)
		}
		long[min(len(want), 3)]++
	}
	if slices.Min(long[:]) < 3 {
		t.Errorf("so many lists have so many bails: %v", long)
	}
}

// TestHolds is of P10.9: however many hogsheads there truly are, whatever they give, and whichever bails are measured, the book can be true, no measure is false, and what is in pits, and runs over, is as it is told.
func TestHolds(t *testing.T) {
	r := chance(3)
	for range rounds / 2 {
		b, x := anyTrueBook(r, ordinary(r))
		if is, e := press.Right(b); !is || e != api.OK {
			t.Fatalf("Right of %v: %v, %d, but %v", b, is, e, x)
		}
		if l, e := press.Wrong(b); len(l) > 0 || e != api.OK {
			t.Fatalf("Wrong of %v: %v, %d, but %v", b, l, e, x)
		}
		for lot := range b.Runs {
			if s, e := press.Casks(b, lot); !inside(just(x.casks[lot]), s) || e != api.OK {
				t.Fatalf("Casks of %v, %d: %v, %d, but %v", b, lot, s, e, x)
			}
			if s, e := press.Yield(b, lot); !inside(just(x.yields[lot]), s) || e != api.OK {
				t.Fatalf("Yield of %v, %d: %v, %d, but %v", b, lot, s, e, x)
			}
		}
		pit := r.IntN(len(b.Pits))
		holdsTruly(t, b, pit, x)
	}
}

// holdsTruly checks that a pit can have what it has in a truth, on all days.
func holdsTruly(t *testing.T, b api.PressBook, pit int, x truth) {
	first, f := press.Over(b, pit)
	for day := range days {
		held := x.held[pit][day]
		if s, e := press.Pit(b, pit, day); !inside(just(held), s) || e != api.OK {
			t.Fatalf("Pit %d of %v on %d: %v, %d, but %v", pit, b, day, s, e, x)
		}
		if is, e := press.Can(b, pit, day, held); !is || e != api.OK {
			t.Fatalf("Can of the pit %d of %v on %d: %v, %d, but %v", pit, b, day, is, e, x)
		}
		over := x.over[pit][day]
		if n, e := press.Spill(b, pit, day); over && n == 0 || !over && n == 2 || e != api.OK {
			t.Fatalf("Spill of the pit %d of %v on %d: %d, %d, but %v", pit, b, day, n, e, x)
		}
		if over && (f != api.OK || first > day) {
			t.Fatalf("Over of the pit %d of %v: %d, %d, but %v", pit, b, first, f, x)
		}
	}
}

// TestBetween is of P10.10: both ends of what is in a pit can be, no number beyond them, and each one between them, if the hogsheads of all lots are known.
func TestBetween(t *testing.T) {
	r := chance(4)
	for i := range rounds {
		size := ordinary(r)
		if i%2 == 0 {
			size.apart = 0
		}
		b, _ := anyTrueBook(r, size)
		pit, day := r.IntN(len(b.Pits)), r.IntN(days)
		s, e := press.Pit(b, pit, day)
		for gallons := max(s.Low-1, 0); gallons <= min(s.High+1, api.PressRoom); gallons++ {
			is, f := press.Can(b, pit, day, gallons)
			must := gallons == s.Low || gallons == s.High || size.apart == 0 && inside(just(gallons), s)
			if must && !is || is && !inside(just(gallons), s) || e != api.OK || f != api.OK {
				t.Fatalf("Pit %d of %v on %d: %v, %d, but Can of %d: %v, %d", pit, b, day, s, e, gallons, is, f)
			}
		}
	}
}

// TestMustBeFalse is of P10.11: without the measures that are told the book can be true, without fewer it cannot.
func TestMustBeFalse(t *testing.T) {
	r := chance(5)
	for range rounds {
		b := anyBook(r, ordinary(r))
		wrong, e := press.Wrong(b)
		if is, f := press.Right(without(b, wrong...)); !is || e != api.OK || f != api.OK {
			t.Fatalf("without %v, %d, %v can be true: %v, %d", wrong, e, b, is, f)
		}
		for _, list := range listsOf(len(b.Bails)) {
			if slices.Equal(list, wrong) {
				break
			}
			if is, _ := press.Right(without(b, list...)); is {
				t.Fatalf("Wrong of %v: %v, but without %v it can be true", b, wrong, list)
			}
		}
	}
}

// TestMoreRoom is of P10.12: if nothing was measured, no pit runs over sooner with more room, and one that cannot run over has what runs into it.
func TestMoreRoom(t *testing.T) {
	r := chance(6)
	tried := 0
	for range rounds {
		b := unmeasured(anyBook(r, ordinary(r)))
		pit := r.IntN(len(b.Pits))
		before, e := press.Over(b, pit)
		after, f := press.Over(with(b, room(pit, within(r, to(b.Pits[pit], api.PressRoom)))), pit)
		if e == api.ErrNone && f != api.ErrNone || f == api.OK && after < before {
			t.Fatalf("Over of the pit %d of %v: %d, %d, with more room %d, %d", pit, b, before, e, after, f)
		}
		if e != api.ErrNone {
			continue
		}
		tried++
		for day := range days {
			if s, g := press.Pit(b, pit, day); s != runsInto(b, pit, day) || g != api.OK {
				t.Fatalf("Pit %d of %v on %d: %v, %d, but %v runs into it", pit, b, day, s, g, runsInto(b, pit, day))
			}
		}
	}
	if tried < rounds/5 {
		t.Errorf("of %d pits only %d cannot run over", rounds, tried)
	}
}

// runsInto is what runs into a pit since it was bailed before a day, up to its end.
func runsInto(b api.PressBook, pit, day int) api.Span {
	var s api.Span
	for at := range day + 1 {
		for lot, many := range counts(b) {
			on := at - b.Runs[lot].Day
			if b.Runs[lot].Pit == pit && on >= 0 && on < len(b.Gives) {
				s = to(s.Low+many.Low*b.Gives[on].Low, s.High+many.High*b.Gives[on].High)
			}
		}
		if _, is := bailOf(b, pit, at); is && at < day {
			s = api.Span{}
		}
	}
	return s
}

// TestMoreMeasured is of P10.13: once more is measured nothing can be in a pit, and no lot can have hogsheads, that could not be before.
func TestMoreMeasured(t *testing.T) {
	r := chance(7)
	tried := 0
	for range rounds {
		more := anyBook(r, ordinary(r))
		if is, _ := press.Right(more); !is || len(more.Bails) == 0 {
			continue
		}
		tried++
		less := without(more, r.IntN(len(more.Bails)))
		for lot := range more.Runs {
			before, e := press.Casks(less, lot)
			after, f := press.Casks(more, lot)
			if !inside(after, before) || e != api.OK || f != api.OK {
				t.Fatalf("Casks of %v, %d: %v, %d, but of %v: %v, %d", less, lot, before, e, more, after, f)
			}
		}
		pit := r.IntN(len(more.Pits))
		for day := range days {
			before, e := press.Pit(less, pit, day)
			after, f := press.Pit(more, pit, day)
			if !inside(after, before) || e != api.OK || f != api.OK {
				t.Fatalf("Pit %d of %v on %d: %v, %d, but of %v: %v, %d", pit, less, day, before, e, more, after, f)
			}
			gallons := within(r, after)
			is, _ := press.Can(less, pit, day, gallons)
			if can, _ := press.Can(more, pit, day, gallons); can && !is {
				t.Fatalf("Can of the pit %d of %v on %d, %d, but not of %v", pit, more, day, gallons, less)
			}
		}
	}
	if tried < rounds/4 {
		t.Errorf("of %d books only %d can be true", rounds, tried)
	}
}

// copied is a book that shares no memory with another one, up to the capacity of its lists.
func copied(b api.PressBook) api.PressBook {
	b.Bulk.Lots, b.Gives, b.Runs = whole(b.Bulk.Lots), whole(b.Gives), whole(b.Runs)
	b.Pits, b.Bails = whole(b.Pits), whole(b.Bails)
	return b
}

// whole is a copy of a list, with all that lies behind it.
func whole[T any](list []T) []T { return slices.Clone(list[:cap(list)]) }

// roomy is a list with something behind it that is not its own.
func roomy[T any](list []T, behind T) []T {
	longer := append(slices.Clone(list), behind, behind)
	return longer[:len(list)]
}

// TestOnlyRead is of P10.8: arguments are only read, up to the capacity of their lists, and results are new memory.
func TestOnlyRead(t *testing.T) {
	r := chance(8)
	for range rounds / 3 {
		b := anyBook(r, ordinary(r))
		b.Bulk.Lots, b.Gives, b.Runs = roomy(b.Bulk.Lots, api.BulkLot{Waste: to(9, 8)}), roomy(b.Gives, to(7, -7)), roomy(b.Runs, run(-5, 77))
		b.Pits, b.Bails = roomy(b.Pits, -6), roomy(b.Bails, bail(-8, 78, 7777))
		old := copied(b)
		first := results(b, 0, 0, 1, 5)
		again := results(b, 0, 0, 1, 5)
		for _, x := range first {
			if l, ok := x.([]int); ok {
				for i := range l[:cap(l)] {
					l[:cap(l)][i] = -7
				}
			}
		}
		if now := copied(b); !reflect.DeepEqual(now, old) {
			t.Fatalf("the book was changed: %v; before %v", now, old)
		}
		if !reflect.DeepEqual(again, results(b, 0, 0, 1, 5)) {
			t.Fatalf("results of %v share memory", b)
		}
	}
}

// TestSameAgain is of P2: what was called before, and where the arguments lie, makes no difference.
func TestSameAgain(t *testing.T) {
	r := chance(9)
	var books []api.PressBook
	var before [][]any
	for range rounds / 3 {
		b := anyBook(r, ordinary(r))
		books, before = append(books, b), append(before, results(b, 0, 0, 2, 7))
	}
	for _, i := range r.Perm(len(books)) {
		if l := results(with(books[i]), 0, 0, 2, 7); !reflect.DeepEqual(l, before[i]) {
			t.Fatalf("the book %v: first %v, then %v", books[i], before[i], l)
		}
	}
}

// TestNilAndEmpty is of rule R3, for P10.1 to P10.7: there is no difference between a nil list and an empty one.
func TestNilAndEmpty(t *testing.T) {
	none := book(cellar(casks(0)), runs(), bails())
	empty := book(cellar(casks(0)), func(b *api.PressBook) {
		b.Bulk.Lots, b.Runs, b.Bails = []api.BulkLot{}, []api.PressRun{}, []api.PressBail{}
	})
	for _, pair := range [][2]api.PressBook{
		{none, empty}, {book(bails()), book(bails([]api.PressBail{}...))},
		{book(gives()), book(gives([]api.Span{}...))}, {book(pits()), book(pits([]int{}...))},
	} {
		if l, m := results(pair[0], 0, 0, 1, 0), results(pair[1], 0, 0, 1, 0); !reflect.DeepEqual(l, m) {
			t.Errorf("nil lists: %v, empty ones: %v", l, m)
		}
	}
}

// wild is a number that is likely to be wrong.
func wild(r *rand.Rand) int {
	numbers := []int{0, 1, 2, 3, 4, 6, 7, 9, 10, 11, 400, 401, -1, -2, math.MaxInt, math.MinInt, math.MaxInt32, math.MinInt32, math.MaxInt / 2, 1 << 32}
	return numbers[r.IntN(len(numbers))]
}

// wildBook is a book of which some numbers are any.
func wildBook(r *rand.Rand) api.PressBook {
	b := anyBook(r, scale{lots: 1 + r.IntN(4), most: 9, apart: r.IntN(4), wide: 3})
	for _, change := range []func(){
		func() { b.Bulk.Holds[r.IntN(3)] = to(wild(r), wild(r)) },
		func() { b.Bulk.Error[r.IntN(3)] = wild(r) },
		func() { b.Bulk.Lots[0].Told[r.IntN(3)] = wild(r) },
		func() { b.Bulk.Lots = make([]api.BulkLot, r.IntN(100000)) },
		func() { b.Gives[0] = to(wild(r), wild(r)) },
		func() { b.Gives = make([]api.Span, r.IntN(7)) },
		func() { b.Runs[0] = run(wild(r), wild(r)) },
		func() { b.Runs = make([]api.PressRun, 100000) },
		func() { b.Pits[0] = wild(r) },
		func() { b.Pits = make([]int, r.IntN(6)) },
		func() { b.Bails = append(b.Bails, bail(wild(r), wild(r), wild(r))) },
		func() { b.Bails = make([]api.PressBail, 100000) },
		func() { b = api.PressBook{} },
	} {
		if len(b.Runs) == 0 || len(b.Bulk.Lots) == 0 || len(b.Gives) == 0 || len(b.Pits) == 0 {
			return b
		}
		if r.IntN(12) == 0 {
			change()
		}
	}
	return b
}

// TestAnyArguments is of P1: every function ends, without a panic, and with an error all other results are zero values.
func TestAnyArguments(t *testing.T) {
	r := chance(10)
	for range 500 {
		b := wildBook(r)
		l := results(b, wild(r), wild(r), wild(r), wild(r))
		for i := 2; i < len(l); i += 2 {
			if v := reflect.ValueOf(l[i-1]); l[i] != api.OK && !v.IsZero() {
				t.Fatalf("the book %v: %v", b, l)
			}
		}
	}
}

// TestMostWork is of P1: the books that take the longest end soon, too.
func TestMostWork(t *testing.T) {
	most := api.PressBook{
		Bulk: casks(3, 40, 40, 40, 40), Gives: stream(to(0, 3), to(6, 9), to(0, 3), to(6, 9)), Runs: slices.Repeat([]api.PressRun{run(0, 0)}, 4), Pits: []int{400},
		Bails: []api.PressBail{bail(0, 0, 400), bail(0, 1, 400), bail(0, 2, 400), bail(0, 3, 400), bail(0, 8, 400), bail(0, 9, 400)},
	}
	most.Bulk.Holds = [3]api.Span{to(1, 4), to(2, 5), to(3, 6)}
	if l, e := press.Wrong(most); !slices.Equal(l, []int{4, 5}) || e != api.OK {
		t.Errorf("Wrong: %v, %d", l, e)
	}
	right := with(most, room(0, 399), bails(bail(0, 3, 399), bail(0, 8, 0), bail(0, 9, 0)))
	if s, e := press.Pit(right, 0, 2); s != just(399) || e != api.OK {
		t.Errorf("Pit: %v, %d", s, e)
	}
	if n, e := press.Over(right, 0); n != 0 || e != api.OK {
		t.Errorf("Over: %d, %d", n, e)
	}
	if s, e := press.Casks(right, 3); s != to(37, 43) || e != api.OK {
		t.Errorf("Casks: %v, %d", s, e)
	}
	// as many hogsheads, and as much oil, as there can be at all
	many := casks(0, slices.Repeat([]int{none}, 4)...)
	many.Holds = [3]api.Span{just(6), just(9), just(1)}
	for lot := range many.Lots {
		many.Lots[lot].Told[api.BulkBarrow], many.Error[api.BulkBarrow] = 40, 0
	}
	much := with(most, cellar(many), gives(slices.Repeat([]api.Span{just(9)}, 4)...), bails())
	if s, e := press.Yield(much, 0); s != to(235*36, 240*36) || e != api.OK {
		t.Errorf("Yield: %v, %d", s, e)
	}
	for day, want := range []int{2, 2, 2, 2, 0} {
		if n, e := press.Spill(much, 0, day); n != want || e != api.OK {
			t.Errorf("Spill on %d: %d, %d", day, n, e)
		}
	}
}
