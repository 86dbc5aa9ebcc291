package turn_test

import (
	"math"
	"math/rand/v2"
	"reflect"
	"slices"
	"testing"

	"huer/api"
	"huer/turn"
)

// rounds is how many books each test of a property tries.
const rounds = 400

// TestAgainstSlow is of P2.1 to P2.4, P2.6 and P2.7: all answers are those that follow, slowly, from the chapter's definitions.
func TestAgainstSlow(t *testing.T) {
	r := chance(1)
	for range rounds {
		b := smallBook(r)
		all := truths(b)
		station, minute := r.IntN(len(b.Orders)), anyMinute(r, b)
		turns := func(one truth, other truth) int { return one.turn(minute) - other.turn(minute) }
		least, most := slices.MinFunc(all, turns).turn(minute), slices.MaxFunc(all, turns).turn(minute)
		if s, e := turn.Turn(b, minute); s != to(least, most) || e != api.OK {
			t.Fatalf("Turn %d of %v: %v, %d", minute, b, s, e)
		}
		if l, e := turn.Owners(b, station, minute); !slices.Equal(l, slowOwners(b, all, station, minute)) || e != api.OK {
			t.Fatalf("Owners %d, %d of %v: %v, %d", station, minute, b, l, e)
		}
		for i := range b.Shots {
			fair := share(all, func(x truth) bool { return x.fair(b, i) })
			if n, e := turn.Fair(b, i); n != fair || e != api.OK {
				t.Fatalf("Fair %d of %v: %d, %d", i, b, n, e)
			}
			if l, e := turn.Hangs(b, i); !slices.Equal(l, slowHangs(b, all, i)) || e != api.OK {
				t.Fatalf("Hangs %d of %v: %v, %d", i, b, l, e)
			}
			for o := range i {
				first := share(all, func(x truth) bool { return x.shots[i] < x.shots[o] })
				if n, e := turn.First(b, i, o); n != first || e != api.OK {
					t.Fatalf("First %d, %d of %v: %d, %d", i, o, b, n, e)
				}
			}
		}
		if l, e := turn.Wrong(b); !slices.Equal(l, slowWrong(b, all)) || e != api.OK {
			t.Fatalf("Wrong of %v: %v, %d", b, l, e)
		}
		if n, e := turn.Learn(b); len(b.Bounds) > 0 && (n != slowLearn(b, all) || e != api.OK) || len(b.Bounds) == 0 && e != api.ErrNone {
			t.Fatalf("Learn of %v: %d, %d", b, n, e)
		}
	}
}

// TestSureAgainstSlow is of P2.5.
func TestSureAgainstSlow(t *testing.T) {
	r := chance(2)
	for range rounds / 8 {
		b := smallBook(r)
		b.Shots = nil
		all := truths(b)
		for station := range b.Orders {
			for company := range b.Companies {
				if l, e := turn.Sure(b, station, company); !slices.Equal(l, slowSure(b, all, station, company)) || e != api.OK {
					t.Fatalf("Sure %d, %d of %v: %v, %d", station, company, b, l, e)
				}
			}
		}
	}
}

// anyMinute is a minute of the day, most often one that is near a bound.
func anyMinute(r *rand.Rand, b api.TurnBook) int {
	if len(b.Bounds) == 0 || r.IntN(5) == 0 {
		return r.IntN(1440)
	}
	bound := b.Bounds[r.IntN(len(b.Bounds))]
	return min(max(bound.Low-1+r.IntN(bound.High-bound.Low+3), 0), 1439)
}

// TestTrueTurns is of P2.9: whenever turns truly changed, and seines were truly shot.
func TestTrueTurns(t *testing.T) {
	r := chance(3)
	for range rounds * 5 {
		b := anyBook(r)
		x := anyTruth(r, b)
		station, minute := r.IntN(len(b.Orders)), anyMinute(r, b)
		now := x.turn(minute)
		if s, _ := turn.Turn(b, minute); now < s.Low || now > s.High {
			t.Fatalf("the turn at %d is %d, but Turn of %v: %v", minute, now, b, s)
		}
		company := b.Orders[station][now]
		if l, _ := turn.Owners(b, station, minute); !slices.Contains(l, company) {
			t.Fatalf("the turn at %d is of %d, but Owners of %v: %v", minute, company, b, l)
		}
		for other := range b.Companies {
			if l, _ := turn.Sure(b, station, other); other != company && slices.ContainsFunc(l, func(s api.Span) bool { return s.Low <= minute && minute <= s.High }) {
				t.Fatalf("the turn at %d is of %d, but Sure of %d in %v: %v", minute, company, other, b, l)
			}
		}
		for i := range b.Shots {
			if n, _ := turn.Fair(b, i); n == 2 && !x.fair(b, i) || n == 0 && x.fair(b, i) {
				t.Fatalf("the shot %d: %v, but Fair of %v: %d", i, x.fair(b, i), b, n)
			}
		}
	}
}

// TestOneBound is of P2.10: on how many bounds a shot hangs.
func TestOneBound(t *testing.T) {
	r := chance(4)
	open := 0
	for range rounds * 5 {
		b := anyBook(r)
		for i, s := range b.Shots {
			fair, _ := turn.Fair(b, i)
			on, _ := turn.Hangs(b, i)
			if fair == 1 && s.At.Low == s.At.High {
				open++
				if len(on) != 1 {
					t.Fatalf("the shot %d of %v hangs on %v", i, b, on)
				}
			}
			if fair != 1 && len(on) != 0 {
				t.Fatalf("the shot %d of %v hangs on %v, but Fair: %d", i, b, on, fair)
			}
		}
	}
	if open == 0 {
		t.Errorf("no shot whose minute is known hangs on a bound")
	}
}

// TestFewestUnfair is of P2.11: without the shots that are told all can be fair together, and without fewer they cannot.
func TestFewestUnfair(t *testing.T) {
	r := chance(5)
	for range rounds {
		b := smallBook(r)
		all := truths(b)
		told, _ := turn.Wrong(b)
		if !together(b, all, told) {
			t.Fatalf("without %v the shots of %v cannot be fair together", told, b)
		}
		for set := range 1 << len(b.Shots) {
			var l []int
			for i := range b.Shots {
				if set>>i&1 == 1 {
					l = append(l, i)
				}
			}
			if len(l) < len(told) && together(b, all, l) {
				t.Fatalf("without %v the shots of %v can be fair together, but Wrong: %v", l, b, told)
			}
		}
	}
}

// TestMoreKnown is of P2.12: what was sure stays so, and nothing hangs on what is known.
func TestMoreKnown(t *testing.T) {
	r := chance(6)
	narrow := func(s api.Span) api.Span {
		low := s.Low + r.IntN(s.High-s.Low+1)
		return to(low, low+r.IntN(s.High-low+1))
	}
	for range rounds * 5 {
		b := anyBook(r)
		more := change(b, func(b *api.TurnBook) {
			for i, bound := range b.Bounds {
				if r.IntN(2) == 0 {
					b.Bounds[i] = narrow(bound)
				}
			}
			for i, s := range b.Shots {
				if r.IntN(2) == 0 {
					b.Shots[i].At = narrow(s.At)
				}
			}
		})
		for i := range b.Shots {
			before, _ := turn.Fair(b, i)
			after, _ := turn.Fair(more, i)
			if before != 1 && after != before {
				t.Fatalf("Fair %d of %v: %d, and of %v: %d", i, b, before, more, after)
			}
			on, _ := turn.Hangs(more, i)
			for _, k := range on {
				if more.Bounds[k].Low == more.Bounds[k].High {
					t.Fatalf("the shot %d of %v hangs on %d, which is known", i, more, k)
				}
			}
		}
	}
}

// TestNobodyElse is of P2.13: in a run that is returned nobody else has the turn.
func TestNobodyElse(t *testing.T) {
	r := chance(7)
	for range rounds / 8 {
		b := anyBook(r)
		for station := range b.Orders {
			var taken [1440]int
			for company := range b.Companies {
				runs, _ := turn.Sure(b, station, company)
				for _, run := range runs {
					for m := run.Low; m <= run.High; m++ {
						taken[m]++
						if l, _ := turn.Owners(b, station, m); !slices.Equal(l, []int{company}) || taken[m] > 1 {
							t.Fatalf("%d is surely of %d in %v, but Owners: %v", m, company, b, l)
						}
					}
				}
			}
		}
	}
}

// TestOnlyRead is of P2.8: arguments are only read, up to the capacity of their lists, and results are new memory.
func TestOnlyRead(t *testing.T) {
	r := chance(8)
	for range rounds {
		b := anyBook(r)
		// room behind the lists, which is not theirs
		bounds := append(slices.Clone(b.Bounds), to(7, 7), to(8, 8), to(9, 9), to(6, 6))
		shots := append(slices.Clone(b.Shots), shot(1, 1, just(1)))
		b.Bounds, b.Shots = bounds[:len(b.Bounds)], shots[:len(b.Shots)]
		whole := api.TurnBook{Bounds: bounds, Orders: b.Orders, Shots: shots}
		before := copied(whole)
		first := results(b, 0, 5, 0, 0, 1)
		if !reflect.DeepEqual(whole, before) {
			t.Fatalf("the book %v was changed", b)
		}
		again := results(b, 0, 5, 0, 0, 1)
		for _, x := range first {
			switch l := x.(type) {
			case []int:
				for i := range l[:cap(l)] {
					l[:cap(l)][i] = -7
				}
			case []api.Span:
				for i := range l[:cap(l)] {
					l[:cap(l)][i] = to(-7, -7)
				}
			}
		}
		if !reflect.DeepEqual(whole, before) || !reflect.DeepEqual(again, results(b, 0, 5, 0, 0, 1)) {
			t.Fatalf("results of %v share memory", b)
		}
	}
}

// TestSameAgain is of P2: what was called before, and where the arguments lie, makes no difference.
func TestSameAgain(t *testing.T) {
	r := chance(9)
	var books []api.TurnBook
	var known [][]any
	for range rounds {
		b := anyBook(r)
		books = append(books, b)
		known = append(known, results(b, 0, 9, 0, 1, 0))
	}
	for _, i := range r.Perm(len(books)) {
		if l := results(copied(books[i]), 0, 9, 0, 1, 0); !reflect.DeepEqual(l, known[i]) {
			t.Fatalf("the book %v: first %v, then %v", books[i], known[i], l)
		}
	}
}

// TestNilAndEmpty is of rule R3, for P2.1: there is no difference between a nil list and an empty one.
func TestNilAndEmpty(t *testing.T) {
	empty := change(bare(), func(b *api.TurnBook) { b.Bounds, b.Shots = []api.Span{}, []api.TurnShot{} })
	if l, m := results(bare(), 0, 0, 0, 0, 1), results(empty, 0, 0, 0, 0, 1); !reflect.DeepEqual(l, m) {
		t.Errorf("nil lists: %v, empty ones: %v", l, m)
	}
	none := change(bare(), func(b *api.TurnBook) { b.Orders = [][]int{} })
	if e := turn.Check(none); e != api.ErrTurn {
		t.Errorf("an empty list of stations: %d", e)
	}
}

// wild is a number that is likely to be wrong.
func wild(r *rand.Rand) int {
	numbers := []int{0, 1, 2, 3, 4, 5, 10, 1439, 1440, -1, -2, -10, math.MaxInt, math.MinInt, math.MaxInt32, math.MinInt32, math.MaxInt / 2, 1 << 32}
	return numbers[r.IntN(len(numbers))]
}

// wildBook is a book of which some numbers are any.
func wildBook(r *rand.Rand) api.TurnBook {
	b := copied(anyBook(r))
	if r.IntN(8) == 0 {
		b.Companies = wild(r)
	}
	for i := range b.Bounds {
		if r.IntN(8) == 0 {
			b.Bounds[i] = to(wild(r), wild(r))
		}
	}
	for i := range b.Orders {
		if r.IntN(8) == 0 {
			b.Orders[i] = append(b.Orders[i], wild(r))[r.IntN(2):]
		}
	}
	for i := range b.Shots {
		if r.IntN(8) == 0 {
			b.Shots[i] = shot(wild(r), wild(r), to(wild(r), wild(r)))
		}
	}
	switch r.IntN(40) {
	case 0:
		b.Bounds = make([]api.Span, 100000)
	case 1:
		b.Orders = make([][]int, 100000)
	case 2:
		b.Shots = make([]api.TurnShot, 100000)
	}
	return b
}

// TestAnyArguments is of P1: every function ends, without a panic, and with an error all other results are zero values.
func TestAnyArguments(t *testing.T) {
	r := chance(10)
	for range 4000 {
		b := wildBook(r)
		l := results(b, wild(r), wild(r), wild(r), wild(r), wild(r))
		for i := 2; i < len(l); i += 2 {
			if v := reflect.ValueOf(l[i-1]); l[i] != api.OK && !v.IsZero() {
				t.Fatalf("the book %v: %v", b, l)
			}
		}
	}
}

// TestMostWork is of P1: the books that take the longest end soon, too.
func TestMostWork(t *testing.T) {
	b := api.TurnBook{
		Companies: 2,
		Bounds:    []api.Span{to(0, 10), to(11, 21), to(22, 32), to(33, 43)},
		Orders:    [][]int{{0, 0, 0, 0, 0}, {0, 1, 0, 1, 0}},
		Shots:     []api.TurnShot{shot(0, 1, to(6, 16)), shot(0, 1, to(17, 27)), shot(0, 1, to(28, 38)), shot(0, 1, to(5, 15)), shot(0, 1, to(30, 40))},
	}
	if l, e := turn.Wrong(b); !slices.Equal(l, []int{0, 1, 2, 3, 4}) || e != api.OK {
		t.Errorf("Wrong: %v, %d", l, e)
	}
	if n, e := turn.Learn(b); n != 0 || e != api.OK {
		t.Errorf("Learn: %d, %d", n, e)
	}
}
