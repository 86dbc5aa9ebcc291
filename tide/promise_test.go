package tide_test

import (
	"math"
	"math/rand/v2"
	"reflect"
	"slices"
	"testing"

	"huer/api"
	"huer/seine"
	"huer/tide"
)

// rounds is how many books each test of a property tries.
const rounds = 300

// TestAgainstSlow is of P4.2, P4.3 and P4.9: all that is told of all plans is so in a truth, and no truth has less or more.
func TestAgainstSlow(t *testing.T) {
	r := chance(1)
	for range rounds {
		b := smallBook(r)
		all := truths(b)
		var mended []truth
		for _, x := range all {
			x.rate = 0
			mended = append(mended, x)
		}
		for _, plan := range slowPlans(b) {
			want := slowFates(b, plan, all)
			if f, e := told(b, plan); f != want || e != api.OK {
				t.Fatalf("the plan %v of %v: %v, %d, not %v", plan, b, f, e, want)
			}
			want = slowFates(b, plan, mended)
			if s, e := tide.Mended(b, plan); s != want.out || e != api.OK {
				t.Fatalf("Mended %v of %v: %v, %d, not %v", plan, b, s, e, want.out)
			}
		}
	}
}

// slowBest is the plan that the chapter calls the best one.
func slowBest(b api.TideBook, all []truth) []int {
	var best []int
	fewest := slowFates(b, nil, all).lost.High
	for _, plan := range slowPlans(b) {
		lost := slowFates(b, plan, all).lost.High
		shorter := len(plan) < len(best) || len(plan) == len(best) && slices.Compare(plan, best) < 0
		if lost < fewest || lost == fewest && shorter {
			best, fewest = plan, lost
		}
	}
	return best
}

// slowSpare are the tides that the chapter says can be left out.
func slowSpare(b api.TideBook, plan []int, all []truth) []int {
	var list []int
	most := slowFates(b, plan, all).lost.High
	for i, number := range plan {
		if slowFates(b, slices.Delete(slices.Clone(plan), i, i+1), all).lost.High <= most {
			list = append(list, number)
		}
	}
	return list
}

// slowCalm is the hour that the chapter calls calm.
func slowCalm(b api.TideBook, all []truth) (int, api.Errno) {
	for hour := b.Now; hour <= 60; hour++ {
		for _, plan := range slowPlans(b) {
			left := func(x truth) bool {
				x.gale = hour
				return x.play(b, plan).left > 0
			}
			if !slices.ContainsFunc(all, left) {
				return hour, api.OK
			}
		}
	}
	return 0, api.ErrNone
}

// TestBestAgainstSlow is of P4.4 to P4.6: the answers that follow, slowly, from the chapter's definitions.
func TestBestAgainstSlow(t *testing.T) {
	r := chance(2)
	for range rounds {
		b := smallBook(r)
		all := truths(b)
		want := slowBest(b, all)
		if l, e := tide.Best(b); !slices.Equal(l, want) || e != api.OK {
			t.Fatalf("Best of %v: %v, %d, not %v", b, l, e, want)
		}
		for _, plan := range [][]int{anyPlan(r, b), want} {
			spare := slowSpare(b, plan, all)
			if l, e := tide.Spare(b, plan); !slices.Equal(l, spare) || e != api.OK {
				t.Fatalf("Spare %v of %v: %v, %d, not %v", plan, b, l, e, spare)
			}
		}
		b.Gale = just(b.Gale.Low)
		hour, none := slowCalm(b, truths(b))
		if n, e := tide.Calm(b); n != hour || e != none {
			t.Fatalf("Calm of %v: %d, %d, not %d, %d", b, n, e, hour, none)
		}
	}
}

// TestPlansAgainstSlow is of P4.1: IsPlan of any list.
func TestPlansAgainstSlow(t *testing.T) {
	r := chance(3)
	for range rounds {
		b := anyBook(r, 12)
		for range 20 {
			var plan []int
			for range r.IntN(4) {
				plan = append(plan, r.IntN(9)-1)
			}
			if r.IntN(2) == 0 {
				slices.Sort(plan)
			}
			if is, e := tide.IsPlan(b, plan); is != slowIsPlan(b, plan) || e != api.OK {
				t.Fatalf("IsPlan %v of %v: %v, %d", plan, b, is, e)
			}
		}
	}
}

func holds(s api.Span, number int) bool { return s.Low <= number && number <= s.High }

// TestBeforeTheGale is of P4.8: what truly becomes of the seine lies between what is told, in any truth, and in that of the seine as it truly was.
func TestBeforeTheGale(t *testing.T) {
	r := chance(4)
	for range rounds {
		b, own := anyTrueBook(r, r.IntN(13))
		plan := anyPlan(r, b)
		told, e := told(b, plan)
		mended, _ := tide.Mended(b, plan)
		for _, x := range []truth{own, anyTruth(r, b), anyTruth(r, b), anyTruth(r, b)} {
			f := x.play(b, plan)
			if !holds(told.out, f.out) || !holds(told.lost, f.lost) || !holds(told.left, f.left) || e != api.OK {
				t.Fatalf("%v becomes of the plan %v in the truth %v of %v, but %v, %d", f, plan, x, b, told, e)
			}
			x.rate = 0
			if f := x.play(b, plan); !holds(mended, f.out) {
				t.Fatalf("%v becomes of the plan %v in the mended truth %v of %v, but %v", f, plan, x, b, mended)
			}
		}
	}
}

// TestBothEnds is of P4.9, for books of any size: each end is so in a truth that has an end of each thing that is known.
func TestBothEnds(t *testing.T) {
	r := chance(5)
	for range rounds {
		b := anyBook(r, 12)
		plan := anyPlan(r, b)
		spans := known(b)
		var some []truth
		for set := range 1 << len(spans) {
			var numbers []int
			for i, s := range spans {
				numbers = append(numbers, []int{s.Low, s.High}[set>>i&1])
			}
			some = append(some, newTruth(numbers))
		}
		want := slowFates(b, plan, some)
		if f, e := told(b, plan); f != want || e != api.OK {
			t.Fatalf("the plan %v of %v: %v, %d, not %v", plan, b, f, e, want)
		}
	}
}

// mostLost is how many baskets are lost by the best plan, at most.
func mostLost(t *testing.T, b api.TideBook) int {
	t.Helper()
	best, e := tide.Best(b)
	s, f := tide.Lost(b, best)
	if e != api.OK || f != api.OK {
		t.Fatalf("Best of %v: %v, %d, and Lost: %d", b, best, e, f)
	}
	return s.High
}

// TestFewestLost is of P4.10, and of P4.4: no plan loses fewer, nor as few by fewer tides, nor as few as a list that comes later.
func TestFewestLost(t *testing.T) {
	r := chance(6)
	for range rounds {
		b := anyBook(r, r.IntN(13))
		best, e := tide.Best(b)
		fewest := mostLost(t, b)
		for _, plan := range slowPlans(b) {
			s, _ := tide.Lost(b, plan)
			if e != api.OK || s.High < fewest || s.High == fewest && (len(plan) < len(best) || len(plan) == len(best) && slices.Compare(plan, best) < 0) {
				t.Fatalf("Best of %v: %v, %d, which loses %d, but %v loses %v", b, best, e, fewest, plan, s)
			}
		}
		if spare, e := tide.Spare(b, best); len(spare) > 0 || e != api.OK {
			t.Fatalf("of the best plan %v of %v can be spared: %v, %d", best, b, spare, e)
		}
	}
}

// TestOneTideMore is of P4.11: no fewer are tucked out, no more left or lost; after mending no fewer are tucked out.
func TestOneTideMore(t *testing.T) {
	r := chance(7)
	for range rounds {
		b := anyBook(r, r.IntN(13))
		plan := anyPlan(r, b)
		more, _ := told(b, plan)
		if s, _ := tide.Mended(b, plan); s.Low < more.out.Low || s.High < more.out.High {
			t.Fatalf("of the plan %v of %v: %v, but mended %v", plan, b, more.out, s)
		}
		for i := range plan {
			less, e := told(b, slices.Delete(slices.Clone(plan), i, i+1))
			if e != api.OK || less.out.Low > more.out.Low || less.out.High > more.out.High || less.left.Low < more.left.Low || less.left.High < more.left.High || less.lost.Low < more.lost.Low || less.lost.High < more.lost.High {
				t.Fatalf("the plan %v of %v: %v, but without its tide %d %v, %d", plan, b, more, i, less, e)
			}
		}
	}
}

// TestMoreChoice is of P4.12: more tides, sooner after each other, or a later gale.
func TestMoreChoice(t *testing.T) {
	r := chance(8)
	for range rounds {
		b := anyBook(r, r.IntN(13))
		lost := mostLost(t, b)
		for _, change := range []func(b *api.TideBook){most(min(b.Most+1, 6)), most(6), rest(b.Rest - min(b.Rest, 1)), rest(0)} {
			if n := mostLost(t, with(b, change)); n > lost {
				t.Fatalf("%d are lost of %v, but %d with more choice", lost, b, n)
			}
		}
		by := r.IntN(5)
		for _, change := range []func(b *api.TideBook){gale(min(b.Gale.Low+by, 60), min(b.Gale.High+by, 60)), gale(b.Gale.High, b.Gale.High)} {
			later := with(b, change)
			if n := mostLost(t, later); n > lost {
				t.Fatalf("%d are lost of %v, but %d at %v", lost, b, n, later.Gale)
			}
			plan := anyPlan(r, b)
			before, _ := tide.Lost(b, plan)
			if after, e := tide.Lost(later, plan); after.Low > before.Low || after.High > before.High || e != api.OK {
				t.Fatalf("%v are lost by %v of %v, but %v at %v: %d", before, plan, b, after, later.Gale, e)
			}
		}
	}
}

// TestLostAndLeft is of P4.13, and of P4.2: what is lost is at least as much as what is left, and what is tucked out and lost is all that there was.
func TestLostAndLeft(t *testing.T) {
	r := chance(9)
	for range rounds {
		b := anyBook(r, r.IntN(13))
		plan := anyPlan(r, b)
		f, e := told(b, plan)
		if f.lost.Low < f.left.Low || f.lost.High < f.left.High || f.left.Low < 0 || f.out.Low < 0 || e != api.OK {
			t.Fatalf("the plan %v of %v: %v, %d", plan, b, f, e)
		}
		held, _ := seine.Held(b.Seine, b.Now)
		if f.out.High > held.High || f.lost.High > held.High || held.Low == held.High && (f.out.Low+f.lost.High != held.Low || f.out.High+f.lost.Low != held.Low) {
			t.Fatalf("the plan %v of %v: %v, but %v were there", plan, b, f, held)
		}
	}
}

// TestOnlyRead is of P4.7: arguments are only read, up to the capacity of their lists, and results are new memory.
func TestOnlyRead(t *testing.T) {
	r := chance(10)
	for range rounds {
		b := anyBook(r, r.IntN(13))
		// room behind the lists, which is not theirs
		notes := append(slices.Clone(b.Seine.Notes), note(api.SeineMend, 1, just(0)))
		lows := append(slices.Clone(b.Tides), low(9, 8, 7), low(6, 5, 4))
		plan := append(anyPlan(r, b), 77, 78)
		b.Seine.Notes, b.Tides = notes[:len(b.Seine.Notes)], lows[:len(b.Tides)]
		oldNotes, oldLows, oldPlan := slices.Clone(notes), slices.Clone(lows), slices.Clone(plan)
		asked := plan[:len(plan)-2]
		first := results(b, asked)
		again := results(b, asked)
		for _, x := range first {
			if l, ok := x.([]int); ok {
				for i := range l[:cap(l)] {
					l[:cap(l)][i] = -7
				}
			}
		}
		if !slices.Equal(notes, oldNotes) || !slices.Equal(lows, oldLows) || !slices.Equal(plan, oldPlan) {
			t.Fatalf("the arguments were changed: %v, %v, %v; before %v, %v, %v", notes, lows, plan, oldNotes, oldLows, oldPlan)
		}
		if !reflect.DeepEqual(again, results(b, asked)) {
			t.Fatalf("results of %v share memory", b)
		}
	}
}

// TestSameAgain is of P2: what was called before, and where the arguments lie, makes no difference.
func TestSameAgain(t *testing.T) {
	r := chance(11)
	var books []api.TideBook
	var plans [][]int
	var before [][]any
	for range rounds {
		b := anyBook(r, r.IntN(13))
		plan := anyPlan(r, b)
		books, plans = append(books, b), append(plans, plan)
		before = append(before, results(b, plan))
	}
	for _, i := range r.Perm(len(books)) {
		if l := results(with(books[i]), slices.Clone(plans[i])); !reflect.DeepEqual(l, before[i]) {
			t.Fatalf("the book %v: first %v, then %v", books[i], before[i], l)
		}
	}
}

// TestNilAndEmpty is of rule R3, for P4.1 to P4.6: there is no difference between a nil list and an empty one.
func TestNilAndEmpty(t *testing.T) {
	none := plain(tides())
	empty := with(none, func(b *api.TideBook) { b.Tides, b.Seine.Notes = []api.TideLow{}, []api.SeineNote{} })
	none.Tides, none.Seine.Notes = nil, nil
	if l, m := results(none, nil), results(empty, []int{}); !reflect.DeepEqual(l, m) {
		t.Errorf("nil lists: %v, empty ones: %v", l, m)
	}
}

// wild is a number that is likely to be wrong.
func wild(r *rand.Rand) int {
	numbers := []int{0, 1, 2, 3, 6, 7, 12, 13, 59, 60, 61, 99, 100, 400, -1, -2, math.MaxInt, math.MinInt, math.MaxInt32, math.MinInt32, math.MaxInt / 2, 1 << 32}
	return numbers[r.IntN(len(numbers))]
}

// wildBook is a book of which some numbers are any.
func wildBook(r *rand.Rand) api.TideBook {
	b := anyBook(r, 4)
	for _, change := range []func(){
		func() { b.Seine.Inclosed = to(wild(r), wild(r)) },
		func() { b.Seine.Notes = append(b.Seine.Notes, note(wild(r), wild(r), to(wild(r), wild(r)))) },
		func() { b.Now = wild(r) },
		func() { b.Tides = append(b.Tides, low(wild(r), wild(r), wild(r))) },
		func() { b.Tides = make([]api.TideLow, 100000) },
		func() { b.Gale = to(wild(r), wild(r)) },
		func() { b.Most = wild(r) },
		func() { b.Rest = wild(r) },
	} {
		if r.IntN(12) == 0 {
			change()
		}
	}
	return b
}

// TestAnyArguments is of P1: every function ends, without a panic, and with an error all other results are zero values.
func TestAnyArguments(t *testing.T) {
	r := chance(12)
	for range 2000 {
		b := wildBook(r)
		var plan []int
		for range r.IntN(4) {
			plan = append(plan, wild(r))
		}
		l := results(b, plan)
		for i := 2; i < len(l); i += 2 {
			if v := reflect.ValueOf(l[i-1]); l[i] != api.OK && !v.IsZero() {
				t.Fatalf("the book %v, the plan %v: %v", b, plan, l)
			}
		}
	}
}

// TestMostWork is of P1: the books that take the longest end soon, too.
func TestMostWork(t *testing.T) {
	b := api.TideBook{Seine: api.SeineBook{Inclosed: to(388, 400)}, Gale: to(48, 60), Most: 6}
	for range 8 {
		b.Seine.Notes = append(b.Seine.Notes, note(api.SeineBreach, 0, to(0, 9)))
	}
	for i := range 6 {
		b.Tides = append(b.Tides, low(8*i, 54, 66))
	}
	all := []int{0, 1, 2, 3, 4, 5}
	if f, e := told(b, all); f != (fates{to(54, 396), to(0, 346), to(0, 76)}) || e != api.OK {
		t.Errorf("all tides: %v, %d", f, e)
	}
	if l, e := tide.Best(b); !slices.Equal(l, []int{0}) || e != api.OK {
		t.Errorf("Best: %v, %d", l, e)
	}
	if n, e := tide.Calm(b); n != 0 || e != api.ErrNone {
		t.Errorf("Calm: %d, %d", n, e)
	}
}
