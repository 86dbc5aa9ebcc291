package salt_test

import (
	"math"
	"math/rand/v2"
	"reflect"
	"slices"
	"testing"

	"huer/api"
	"huer/bulk"
	"huer/salt"
)

// rounds is how many books each test of a property tries.
const rounds = 300

// TestAgainstSlow is of P6.1 to P6.3: all that is told is so in a truth, and no truth has less or more.
func TestAgainstSlow(t *testing.T) {
	r := chance(1)
	rights := 0
	for range rounds {
		b := smallBook(r)
		want, right := slow(b)
		is, e := salt.Right(b)
		if is != right || e != api.OK {
			t.Fatalf("Right of %v: %v, %d", b, is, e)
		}
		s, e := seen(b)
		if !right {
			if _, f := salt.Owes(b, 5); e != api.ErrSaltFalse || f != api.ErrSaltFalse {
				t.Fatalf("%v cannot be true, but %v, %d, %d", b, s, e, f)
			}
			continue
		}
		rights++
		if !s.same(want) || e != api.OK {
			t.Fatalf("what is told of %v: %v, %d, not %v", b, s, e, want)
		}
		rate, last := r.IntN(100), want.left[len(b.Days)-1]
		if o, e := salt.Owes(b, rate); o != to(rate*last.Low, rate*last.High) || e != api.OK {
			t.Fatalf("Owes of %v for %d: %v, %d", b, rate, o, e)
		}
	}
	if rights < rounds/4 || rights > rounds*9/10 {
		t.Errorf("of %d books %d can be true", rounds, rights)
	}
}

// TestEnoughAgainstSlow is of P6.4 and P6.5: the day, and the bushels, that follow, slowly, from the chapter's definition.
func TestEnoughAgainstSlow(t *testing.T) {
	r := chance(2)
	enough := 0
	for range rounds {
		b := anyBook(r, 1+r.IntN(6), r.IntN(13))
		want, none := slowEnough(b, mostUsed(b), 0, 0), api.OK
		if want < 0 {
			want, none = 0, api.ErrNone
			enough++
		}
		if n, e := salt.Enough(b); n != want || e != none {
			t.Fatalf("Enough of %v: %d, %d, not %d, %d", b, n, e, want, none)
		}
		number := r.IntN(len(b.Days))
		want, none = slowMore(b, number), api.OK
		if want < 0 {
			want, none = 0, api.ErrNone
		}
		if n, e := salt.More(b, number); n != want || e != none {
			t.Fatalf("More of %v on %d: %d, %d, not %d, %d", b, number, n, e, want, none)
		}
	}
	if enough < rounds/20 || enough > rounds*19/20 {
		t.Errorf("of %d books %d have enough", rounds, enough)
	}
}

// TestGoneAgainstSlow is of P6.6: the bushels that follow, slowly, if some can go on any day.
func TestGoneAgainstSlow(t *testing.T) {
	r := chance(3)
	var kinds [3]int // none, nothing, and more
	for range rounds {
		b := smallBook(r)
		want, is := slowGone(b)
		n, e := salt.Gone(b)
		if n != want || is != (e == api.OK) || !is && e != api.ErrNone {
			t.Fatalf("Gone of %v: %d, %d, not %d, %v", b, n, e, want, is)
		}
		if right, _ := salt.Right(b); right != (is && n == 0) {
			t.Fatalf("Gone of %v: %d, %d, but Right: %v", b, n, e, right)
		}
		switch {
		case !is:
			kinds[0]++
		case n == 0:
			kinds[1]++
		default:
			kinds[2]++
		}
	}
	if slices.Min(kinds[:]) < rounds/20 {
		t.Errorf("of %d books so many have no truth with theft, no theft, and some: %v", rounds, kinds)
	}
}

// TestWrongAgainstSlow is of P6.7: the list that follows, slowly, from the chapter's definition.
func TestWrongAgainstSlow(t *testing.T) {
	r := chance(4)
	var long [4]int
	nones := 0
	for range 2 * rounds {
		b := smallBook(r)
		want, is := slowWrong(b)
		if l, e := salt.Wrong(b); !slices.Equal(l, want) || is != (e == api.OK) || !is && e != api.ErrNone {
			t.Fatalf("Wrong of %v: %v, %d, not %v, %v", b, l, e, want, is)
		}
		if !is {
			nones++
		} else {
			long[min(len(want), 3)]++
		}
	}
	if nones < 5 || slices.Min(long[:]) < 5 {
		t.Errorf("so many lists have so many counts: %v, and %d have no truth", long, nones)
	}
}

// TestAccounted is of P6.9: whatever was truly there, packed and used, the book can be true, nothing went elsewhere, no count is false, and what is true lies between what is told.
func TestAccounted(t *testing.T) {
	r := chance(5)
	for range rounds {
		b, x := anyTrueBook(r, 1+r.IntN(6), r.IntN(21))
		if is, e := salt.Right(b); !is || e != api.OK {
			t.Fatalf("Right of %v: %v, %d, but %v", b, is, e, x)
		}
		if n, e := salt.Gone(b); n != 0 || e != api.OK {
			t.Fatalf("Gone of %v: %v, %d, but %v", b, n, e, x)
		}
		if l, e := salt.Wrong(b); len(l) > 0 || e != api.OK {
			t.Fatalf("Wrong of %v: %v, %d, but %v", b, l, e, x)
		}
		if s, e := seen(b); !sightOf(x).within(s) || e != api.OK {
			t.Fatalf("what is told of %v: %v, %d, but %v", b, s, e, x)
		}
		rate := r.IntN(100)
		if s, e := salt.Owes(b, rate); !inside(just(rate*x.left[len(b.Days)-1]), s) || e != api.OK {
			t.Fatalf("Owes of %v for %d: %v, %d, but %v", b, rate, s, e, x)
		}
	}
}

// TestBothEnds is of P6.10: both ends of what is left on a day can be counted on it, and no number beyond them.
func TestBothEnds(t *testing.T) {
	r := chance(6)
	for range rounds {
		b, _ := anyTrueBook(r, 1+r.IntN(6), r.IntN(13))
		number := r.IntN(len(b.Days))
		s, e := salt.Left(b, number)
		for _, end := range []int{s.Low, s.High} {
			if is, f := salt.Right(with(b, left(number, end))); !is || e != api.OK || f != api.OK {
				t.Fatalf("Left of %v on %d: %v, %d, but %d: %v, %d", b, number, s, e, end, is, f)
			}
		}
		if b.Days[number].Left != none {
			continue
		}
		for _, beyond := range []int{s.Low - 1, s.High + 1} {
			if is, _ := salt.Right(with(b, left(number, beyond))); is && beyond != none {
				t.Fatalf("Left of %v on %d: %v, %d, but %d: %v", b, number, s, e, beyond, is)
			}
		}
	}
}

// TestMustBeFalse is of P6.11: without the counts that are told the book can be true, without fewer it cannot.
func TestMustBeFalse(t *testing.T) {
	r := chance(7)
	for range rounds {
		b := anyBook(r, 1+r.IntN(6), r.IntN(13))
		wrong, e := salt.Wrong(b)
		if is, f := salt.Right(withoutCounts(b, wrong...)); is != (e == api.OK) || f != api.OK {
			t.Fatalf("without %v, %d, %v can be true: %v, %d", wrong, e, b, is, f)
		}
		for _, list := range listsOf(len(b.Days)) {
			if e == api.OK && slices.Equal(list, wrong) {
				break
			}
			if is, _ := salt.Right(withoutCounts(b, list...)); is {
				t.Fatalf("Wrong of %v: %v, %d, but without %v it can be true", b, wrong, e, list)
			}
		}
	}
}

// TestEnoughIsTrue is of P6.12: if the salt is enough the book can be true without counts; with what is drawn more it is enough, with a bushel less it is not.
func TestEnoughIsTrue(t *testing.T) {
	r := chance(8)
	tried := 0
	for range rounds {
		b := anyBook(r, 1+r.IntN(6), r.IntN(13))
		if _, e := salt.Enough(b); e == api.ErrNone {
			if is, f := salt.Right(withoutCounts(b, []int{0, 1, 2, 3, 4, 5}[:len(b.Days)]...)); !is || f != api.OK {
				t.Fatalf("%v has enough, but Right: %v, %d", b, is, f)
			}
		}
		number := r.IntN(len(b.Days))
		more, e := salt.More(b, number)
		total := b.Days[number].Draw + more
		if e != api.OK || total > api.SaltDraw {
			continue
		}
		if n, f := salt.Enough(with(b, draw(number, total))); f != api.ErrNone {
			t.Fatalf("More of %v on %d: %d, but Enough: %d, %d", b, number, more, n, f)
		}
		if more > 0 {
			tried++
			if n, f := salt.Enough(with(b, draw(number, total-1))); f != api.OK {
				t.Fatalf("More of %v on %d: %d, but Enough with less: %d, %d", b, number, more, n, f)
			}
		}
	}
	if tried < rounds/20 {
		t.Errorf("of %d books only %d lack some", rounds, tried)
	}
}

// TestMoreCounted is of P6.13: if more is counted, or more known of what was there at first, nothing can be left or used that could not be before.
func TestMoreCounted(t *testing.T) {
	r := chance(9)
	for range rounds {
		less, x := anyTrueBook(r, 1+r.IntN(6), r.IntN(13))
		more := with(less)
		number := r.IntN(len(less.Days))
		if r.IntN(2) == 0 {
			less.Days[number].Left, more.Days[number].Left = none, x.left[number]
		} else {
			low := less.Start.Low + r.IntN(less.Start.High-less.Start.Low+1)
			more.Start = to(low, low+r.IntN(less.Start.High-low+1))
		}
		if is, _ := salt.Right(more); !is {
			continue
		}
		before, e := seen(less)
		after, f := seen(more)
		if !after.within(before) || e != api.OK || f != api.OK {
			t.Fatalf("what is told of %v: %v, %d, but of %v: %v, %d", less, before, e, more, after, f)
		}
	}
}

// TestOnlyRead is of P6.8: arguments are only read, up to the capacity of their lists, and results are new memory.
func TestOnlyRead(t *testing.T) {
	r := chance(10)
	for range rounds / 3 {
		b := anyBook(r, 1+r.IntN(6), r.IntN(6))
		// room behind the days and the lots, which is not theirs
		all := append(slices.Clone(b.Days), day(77, cellar(), 78), day(-5, cellar(), -6))
		b.Days = all[:len(b.Days)]
		lots := append(slices.Clone(b.Days[0].Bulk.Lots), api.BulkLot{Waste: to(9, 8)})
		b.Days[0].Bulk.Lots = lots[:len(lots)-1]
		old, oldLots := with(api.SaltBook{Days: all}), slices.Clone(lots)
		first := results(b, 0, 1)
		again := results(b, 0, 1)
		for _, x := range first {
			if l, ok := x.([]int); ok {
				for i := range l[:cap(l)] {
					l[:cap(l)][i] = -7
				}
			}
		}
		if !reflect.DeepEqual(all, old.Days) || !slices.Equal(lots, oldLots) {
			t.Fatalf("the days were changed: %v; before %v", all, old)
		}
		if !reflect.DeepEqual(again, results(b, 0, 1)) {
			t.Fatalf("results of %v share memory", b)
		}
	}
}

// TestSameAgain is of P2: what was called before, and where the arguments lie, makes no difference.
func TestSameAgain(t *testing.T) {
	r := chance(11)
	var books []api.SaltBook
	var before [][]any
	for range rounds / 3 {
		b := anyBook(r, 1+r.IntN(6), r.IntN(6))
		books, before = append(books, b), append(before, results(b, 1, 2))
	}
	for _, i := range r.Perm(len(books)) {
		if l := results(with(books[i]), 1, 2); !reflect.DeepEqual(l, before[i]) {
			t.Fatalf("the book %v: first %v, then %v", books[i], before[i], l)
		}
	}
}

// TestNilAndEmpty is of rule R3, for P6.1 to P6.7: there is no difference between a nil list and an empty one.
func TestNilAndEmpty(t *testing.T) {
	for _, pair := range [][2]api.SaltBook{
		{plain(just(9), just(2)), {Start: just(9), Takes: just(2), Days: []api.SaltDay{}}},
		{book(cured(0, casks(0))), book(cured(0, casks(0)), func(b *api.SaltBook) { b.Days[0].Bulk.Lots = []api.BulkLot{} })},
	} {
		if l, m := results(pair[0], 0, 5), results(pair[1], 0, 5); !reflect.DeepEqual(l, m) {
			t.Errorf("nil lists: %v, empty ones: %v", l, m)
		}
	}
}

// wild is a number that is likely to be wrong.
func wild(r *rand.Rand) int {
	numbers := []int{0, 1, 2, 3, 5, 6, 9, 10, 99, 100, 200, 201, 1400, 1401, -1, -2, math.MaxInt, math.MinInt, math.MaxInt32, math.MinInt32, math.MaxInt / 2, 1 << 32}
	return numbers[r.IntN(len(numbers))]
}

// wildBook is a book of which some numbers are any.
func wildBook(r *rand.Rand) api.SaltBook {
	b := anyBook(r, 1+r.IntN(6), 6)
	number := r.IntN(len(b.Days))
	for _, change := range []func(){
		func() { b.Start = to(wild(r), wild(r)) },
		func() { b.Takes = to(wild(r), wild(r)) },
		func() { b.Days[number].Draw = wild(r) },
		func() { b.Days[number].Left = wild(r) },
		func() { b.Days[number].Bulk.Holds[r.IntN(3)] = to(wild(r), wild(r)) },
		func() { b.Days[number].Bulk.Error[r.IntN(3)] = wild(r) },
		func() { b.Days[number].Bulk.Lots = make([]api.BulkLot, r.IntN(100000)) },
		func() { b.Days = append(b.Days, api.SaltDay{}) },
		func() { b.Days = make([]api.SaltDay, 100000) },
		func() { b.Days = nil },
	} {
		if r.IntN(12) == 0 {
			change()
		}
	}
	return b
}

// TestAnyArguments is of P1: every function ends, without a panic, and with an error all other results are zero values.
func TestAnyArguments(t *testing.T) {
	r := chance(12)
	for range 500 {
		b, number, rate := wildBook(r), wild(r), wild(r)
		l := results(b, number, rate)
		for i := 2; i < len(l); i += 2 {
			if v := reflect.ValueOf(l[i-1]); l[i] != api.OK && !v.IsZero() {
				t.Fatalf("the book %v, asked %d, %d: %v", b, number, rate, l)
			}
		}
	}
}

// TestMostWork is of P1: the books that take the longest end soon, too.
func TestMostWork(t *testing.T) {
	most := plain(to(180, 200), to(1, 4), slices.Repeat([]api.SaltDay{day(200, casks(2, 40, 40), none)}, 6)...)
	if s, e := salt.Left(most, 5); s != to(0, 944) || e != api.OK {
		t.Errorf("Left: %v, %d", s, e)
	}
	if s, e := salt.Used(most, 5); s != to(76, 336) || e != api.OK {
		t.Errorf("Used: %v, %d", s, e)
	}
	for number := range most.Days {
		most.Days[number].Left = 1400
	}
	if l, e := salt.Wrong(most); !slices.Equal(l, []int{0, 1, 2, 3, 4, 5}) || e != api.OK {
		t.Errorf("Wrong: %v, %d", l, e)
	}
	// a hogshead of a single hundred, so that there are more of them than any salt is enough for
	many := casks(0, api.BulkNone)
	many.Holds, many.Error = [3]api.Span{just(9), just(9), just(1)}, [3]int{}
	many.Lots[0].Told[api.BulkBarrow] = 40
	if s, e := bulk.Casks(many); s != to(352, 360) || e != api.OK {
		t.Fatalf("Casks: %v, %d", s, e)
	}
	cured := plain(just(200), to(1, 4), day(200, many, none))
	if s, e := salt.Used(cured, 0); s != to(352, 400) || e != api.OK {
		t.Errorf("Used: %v, %d", s, e)
	}
	if n, e := salt.More(cured, 0); n != 1040 || e != api.OK {
		t.Errorf("More: %d, %d", n, e)
	}
}
