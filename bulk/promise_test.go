package bulk_test

import (
	"math"
	"math/rand/v2"
	"reflect"
	"slices"
	"testing"

	"huer/api"
	"huer/bulk"
)

// rounds is how many books each test of a property tries.
const rounds = 300

// TestAgainstSlow is of P5.1 to P5.4: all that is told is so in a truth, and no truth has less or more.
func TestAgainstSlow(t *testing.T) {
	r := chance(1)
	rights := 0
	for range rounds {
		b := anyBook(r, 4)
		all := slow(b)
		is, e := bulk.Right(b)
		if is != (len(all) > 0) || e != api.OK {
			t.Fatalf("Right of %v: %v, %d", b, is, e)
		}
		s, e := seen(b)
		if !is {
			if e != api.ErrBulkFalse {
				t.Fatalf("%v cannot be true, but %v, %d", b, s, e)
			}
			continue
		}
		rights++
		if want := slowSight(b, all); !s.same(want) || e != api.OK {
			t.Fatalf("what is told of %v: %v, %d, not %v", b, s, e, want)
		}
	}
	if rights < rounds/4 || rights > rounds*9/10 {
		t.Errorf("of %d books %d can be true", rounds, rights)
	}
}

// TestWeighAgainstSlow is of P5.5: the kind that follows, slowly, from the chapter's definition.
func TestWeighAgainstSlow(t *testing.T) {
	r := chance(2)
	var kinds [3]int
	for range rounds {
		b := rightBook(r, 4)
		all := slow(b)
		want, none := slowWeigh(all), api.OK
		if total := slowSight(b, all).total; total.Low == total.High {
			want, none = 0, api.ErrNone
		} else {
			kinds[want]++
		}
		if n, e := bulk.Weigh(b); n != want || e != none {
			t.Fatalf("Weigh of %v: %d, %d, not %d, %d", b, n, e, want, none)
		}
	}
	if slices.Min(kinds[:]) < 10 {
		t.Errorf("the kinds were told so often: %v", kinds)
	}
}

// TestWrongAgainstSlow is of P5.6: the list that follows, slowly, from the chapter's definition.
func TestWrongAgainstSlow(t *testing.T) {
	r := chance(3)
	var long [5]int
	for range rounds {
		b := anyBook(r, 3)
		want := slowWrong(b)
		if l, e := bulk.Wrong(b); !slices.Equal(l, want) || e != api.OK {
			t.Fatalf("Wrong of %v: %v, %d, not %v", b, l, e, want)
		}
		long[min(len(want), 4)]++
	}
	if slices.Min(long[:4]) < 10 {
		t.Errorf("so many lists have so many counts: %v", long)
	}
}

// sightOf is what is told of a truth.
func sightOf(x truth) sight {
	s := blank(len(x.fish))
	var fish, casks int
	for kind, holds := range x.measures {
		s.holds[kind] = just(holds)
	}
	for i := range x.fish {
		many := counts(x.measures, x.fish[i], x.waste[i])
		s.fish[i], s.packed[i] = just(x.fish[i]), just(x.fish[i]-x.waste[i])
		for kind := range many {
			s.counts[i][kind] = just(many[kind])
		}
		fish, casks = fish+x.fish[i], casks+many[2]
	}
	s.total, s.casks = just(fish), just(casks)
	return s
}

// TestAgree is of P5.8: however lots were rightly counted, the book can be true, no count must be false, and what is true lies between what is told.
func TestAgree(t *testing.T) {
	r := chance(4)
	for range rounds {
		b, x := anyTrueBook(r, 4)
		if is, e := bulk.Right(b); !is || e != api.OK {
			t.Fatalf("Right of %v: %v, %d, but %v", b, is, e, x)
		}
		if l, e := bulk.Wrong(b); len(l) > 0 || e != api.OK {
			t.Fatalf("Wrong of %v: %v, %d, but %v", b, l, e, x)
		}
		if s, e := seen(b); !sightOf(x).within(s) || e != api.OK {
			t.Fatalf("what is told of %v: %v, %d, but %v", b, s, e, x)
		}
	}
}

// TestOneCountMore is of P5.9: one count more, or a smaller Error, leaves nothing that could not be before.
func TestOneCountMore(t *testing.T) {
	r := chance(5)
	for range rounds {
		less := anyBook(r, 4)
		more := with(less)
		if len(more.Lots) > 0 && r.IntN(2) == 0 {
			less.Lots[r.IntN(len(less.Lots))].Told[r.IntN(3)] = none
		} else {
			kind := r.IntN(3)
			less.Error[kind] = min(more.Error[kind]+1+r.IntN(2), 9)
		}
		if is, _ := bulk.Right(more); !is {
			continue
		}
		before, e := seen(less)
		after, f := seen(more)
		if !after.within(before) || e != api.OK || f != api.OK {
			t.Fatalf("what is told of %v: %v, %d, but of %v: %v, %d", less, before, e, more, after, f)
		}
		wrong, _ := bulk.Wrong(less)
		if len(wrong) > 0 {
			t.Fatalf("Wrong of %v: %v, but %v can be true", less, wrong, more)
		}
	}
}

// TestByItself is of P5.10: each lot by itself leaves at least as much as all together, and all fish lie between the sums of both ends.
func TestByItself(t *testing.T) {
	r := chance(6)
	for range rounds {
		b := rightBook(r, 4)
		s, e := seen(b)
		var least, most int
		for i := range b.Lots {
			alone, f := seen(with(b, lots(b.Lots[i])))
			own := sight{holds: s.holds, fish: s.fish[i : i+1], packed: s.packed[i : i+1], counts: s.counts[i : i+1], total: s.fish[i], casks: s.counts[i][2]}
			if !own.within(alone) || e != api.OK || f != api.OK {
				t.Fatalf("the lot %d of %v: %v, %d, but by itself %v, %d", i, b, own, e, alone, f)
			}
			least, most = least+s.fish[i].Low, most+s.fish[i].High
		}
		if s.total.Low < least || s.total.High > most {
			t.Fatalf("Total of %v: %v, but its lots have %v", b, s.total, s.fish)
		}
	}
}

// withoutCounts is a book as if some counts were not made.
func withoutCounts(b api.BulkBook, list []int) api.BulkBook {
	b = with(b)
	for _, number := range list {
		b.Lots[number/3].Told[number%3] = none
	}
	return b
}

// TestMustBeFalse is of P5.11: without the counts that are told the book can be true, without fewer it cannot.
func TestMustBeFalse(t *testing.T) {
	r := chance(7)
	for range rounds / 3 {
		b := anyBook(r, 4)
		wrong, e := bulk.Wrong(b)
		if is, f := bulk.Right(withoutCounts(b, wrong)); !is || e != api.OK || f != api.OK {
			t.Fatalf("without %v, %d, %v can be true: %v, %d", wrong, e, b, is, f)
		}
		for _, list := range listsOf(3 * len(b.Lots)) {
			if slices.Equal(list, wrong) {
				break
			}
			if is, _ := bulk.Right(withoutCounts(b, list)); is {
				t.Fatalf("Wrong of %v: %v, but without %v it can be true", b, wrong, list)
			}
		}
	}
}

// apart is how far the ends of all fish are apart, if a book can be true.
func apart(b api.BulkBook) (int, bool) {
	total, e := bulk.Total(b)
	return total.High - total.Low, e == api.OK
}

// TestWeighed is of P5.12: what a measure of the told kind is found to hold leaves no more than knowing another kind does at the worst, and no more than before.
func TestWeighed(t *testing.T) {
	r := chance(8)
	for range rounds {
		b := rightBook(r, 4)
		told, e := bulk.Weigh(b)
		if e != api.OK {
			continue
		}
		before, _ := apart(b)
		var worst [3]int
		for kind := range 3 {
			for number := b.Holds[kind].Low; number <= b.Holds[kind].High; number++ {
				if wide, is := apart(with(b, holds(kind, number, number))); is {
					worst[kind] = max(worst[kind], wide)
				}
			}
		}
		if worst[told] > slices.Min(worst[:]) || worst[told] > before {
			t.Fatalf("Weigh of %v: %d, which leaves %v, before %d", b, told, worst, before)
		}
	}
}

// TestEnough is of P5.13: the true numbers are enough for the fish, and with one measure less they are not.
func TestEnough(t *testing.T) {
	r := chance(9)
	for range rounds {
		b, x := anyTrueBook(r, 4)
		for kind, number := range x.measures {
			b.Holds[kind] = just(number)
		}
		for i := range b.Lots {
			fish, _ := bulk.Fish(b, i)
			packed, _ := bulk.Packed(b, i)
			for kind, amount := range [3]api.Span{fish, fish, packed} {
				many, e := bulk.Count(b, i, kind)
				for _, end := range [][2]int{{many.Low, amount.Low}, {many.High, amount.High}} {
					if room := end[0] * x.measures[kind]; room < end[1] || room-x.measures[kind] >= end[1] && end[0] > 0 || e != api.OK {
						t.Fatalf("Count %d of the lot %d of %v: %v, %d, for %v", kind, i, b, many, e, amount)
					}
				}
			}
		}
	}
}

// TestOnlyRead is of P5.7: arguments are only read, up to the capacity of their lists, and results are new memory.
func TestOnlyRead(t *testing.T) {
	r := chance(10)
	for range rounds {
		b := anyBook(r, 4)
		// room behind the lots, which is not theirs
		all := append(slices.Clone(b.Lots), lot(to(9, 8), 77, 78, 79), lot(to(7, 6), -5, -6, -7))
		b.Lots = all[:len(b.Lots)]
		old := slices.Clone(all)
		first := results(b, 0, 1)
		again := results(b, 0, 1)
		for _, x := range first {
			if l, ok := x.([]int); ok {
				for i := range l[:cap(l)] {
					l[:cap(l)][i] = -7
				}
			}
		}
		if !slices.Equal(all, old) {
			t.Fatalf("the lots were changed: %v; before %v", all, old)
		}
		if !reflect.DeepEqual(again, results(b, 0, 1)) {
			t.Fatalf("results of %v share memory", b)
		}
	}
}

// TestSameAgain is of P2: what was called before, and where the arguments lie, makes no difference.
func TestSameAgain(t *testing.T) {
	r := chance(11)
	var books []api.BulkBook
	var before [][]any
	for range rounds {
		b := anyBook(r, 4)
		books, before = append(books, b), append(before, results(b, 1, 2))
	}
	for _, i := range r.Perm(len(books)) {
		if l := results(with(books[i]), 1, 2); !reflect.DeepEqual(l, before[i]) {
			t.Fatalf("the book %v: first %v, then %v", books[i], before[i], l)
		}
	}
}

// TestNilAndEmpty is of rule R3, for P5.1 to P5.6: there is no difference between a nil list and an empty one.
func TestNilAndEmpty(t *testing.T) {
	b, c := book(lots()), book(lots([]api.BulkLot{}...))
	b.Lots, c.Lots = nil, []api.BulkLot{}
	if l, m := results(b, 0, 0), results(c, 0, 0); !reflect.DeepEqual(l, m) {
		t.Errorf("nil lists: %v, empty ones: %v", l, m)
	}
}

// wild is a number that is likely to be wrong.
func wild(r *rand.Rand) int {
	numbers := []int{0, 1, 2, 3, 4, 5, 6, 9, 10, 20, 21, 40, 41, -1, -2, math.MaxInt, math.MinInt, math.MaxInt32, math.MinInt32, math.MaxInt / 2, 1 << 32}
	return numbers[r.IntN(len(numbers))]
}

// wildBook is a book of which some numbers are any.
func wildBook(r *rand.Rand) api.BulkBook {
	b := anyBook(r, 4)
	for _, change := range []func(){
		func() { b.Holds[r.IntN(3)] = to(wild(r), wild(r)) },
		func() { b.Error[r.IntN(3)] = wild(r) },
		func() { b.Lots = append(b.Lots, lot(to(wild(r), wild(r)), wild(r), wild(r), wild(r))) },
		func() { b.Lots = append(b.Lots, lot(just(r.IntN(21)), wild(r), none, none)) },
		func() { b.Lots = make([]api.BulkLot, 100000) },
	} {
		if r.IntN(10) == 0 {
			change()
		}
	}
	return b
}

// TestAnyArguments is of P1: every function ends, without a panic, and with an error all other results are zero values.
func TestAnyArguments(t *testing.T) {
	r := chance(12)
	for range 1000 {
		b, lot, kind := wildBook(r), wild(r), wild(r)
		l := results(b, lot, kind)
		for i := 2; i < len(l); i += 2 {
			if v := reflect.ValueOf(l[i-1]); l[i] != api.OK && !v.IsZero() {
				t.Fatalf("the book %v, asked %d, %d: %v", b, lot, kind, l)
			}
		}
	}
}

// TestMostWork is of P1: the books that take the longest end soon, too.
func TestMostWork(t *testing.T) {
	wide := [3]api.Span{to(1, 4), to(1, 4), to(1, 4)}
	open := api.BulkBook{Holds: wide, Lots: slices.Repeat([]api.BulkLot{lot(to(15, 20), none, none, none)}, 4)}
	if s, e := bulk.Total(open); s != to(60, 1600) || e != api.OK {
		t.Errorf("Total: %v, %d", s, e)
	}
	if s, e := bulk.Casks(open); s != to(0, 1540) || e != api.OK {
		t.Errorf("Casks: %v, %d", s, e)
	}
	if n, e := bulk.Weigh(open); n != 0 || e != api.OK {
		t.Errorf("Weigh: %d, %d", n, e)
	}
	shut := api.BulkBook{Holds: wide, Lots: slices.Repeat([]api.BulkLot{lot(to(15, 20), 0, 1, 40)}, 4)}
	if l, e := bulk.Wrong(shut); !slices.Equal(l, []int{0, 1, 3, 4, 6, 7, 9, 10}) || e != api.OK {
		t.Errorf("Wrong: %v, %d", l, e)
	}
}
