package cry_test

import (
	"math"
	"math/rand/v2"
	"reflect"
	"slices"
	"testing"

	"huer/api"
	"huer/cry"
)

// rounds is how many books each test of a property tries.
const rounds = 150

// TestAgainstSlow is of P1.1 to P1.7: all answers are those that follow, slowly, from the chapter's definitions.
func TestAgainstSlow(t *testing.T) {
	r := chance(1)
	for i := range rounds {
		b := anyBook(r, r.IntN(5))
		if i%2 == 0 {
			b, _ = anyTrueBook(r, r.IntN(9))
		}
		known := slowly(b)
		can := len(known[0]) > 0
		if is, e := cry.Right(b); is != can || e != api.OK {
			t.Fatalf("Right of %v: %v, %d", b, is, e)
		}
		m, wide, high := r.IntN(31), 1+r.IntN(10), 1+r.IntN(10)
		want := api.OK
		if !can {
			want = api.ErrCryFalse
		}
		if l, e := cry.Where(b, m); !slices.Equal(l, known[m]) || e != want {
			t.Fatalf("Where %d of %v: %v, %d", m, b, l, e)
		}
		apart := 0
		for _, s := range known[m] {
			for _, o := range known[m] {
				apart = max(apart, s%b.Wide-o%b.Wide, s/b.Wide-o/b.Wide)
			}
		}
		if n, e := cry.Apart(b, m); n != apart || e != want {
			t.Fatalf("Apart %d of %v: %d, %d", m, b, n, e)
		}
		checkShots(t, b, known, m, wide, high)
		c := anyCry(r)
		fits := len(slowly(with(b, c))[0]) > 0
		if is, e := cry.Fits(b, c); is != fits || e != api.OK {
			t.Fatalf("Fits %v in %v: %v, %d", c, b, is, e)
		}
	}
}

// slowShot is the first square at which a seine incloses all squares, or -1.
func slowShot(b api.CryBook, known []int, wide, high int) int {
	for s := range b.Wide * b.High {
		if !slices.ContainsFunc(known, func(o int) bool { return !incloses(b, s, wide, high, o) }) {
			return s
		}
	}
	return -1
}

// checkShots compares Shot at a minute and Soon with what is known of all minutes.
func checkShots(t *testing.T, b api.CryBook, known [31][]int, minute, wide, high int) {
	t.Helper()
	if len(known[0]) == 0 {
		return
	}
	s, e := cry.Shot(b, minute, wide, high)
	if want := slowShot(b, known[minute], wide, high); e == api.OK && s != want || e == api.ErrNone && want != -1 || e != api.OK && e != api.ErrNone {
		t.Fatalf("Shot %d, %d by %d of %v: %d, %d", minute, wide, high, b, s, e)
	}
	for m, l := range known {
		if want := slowShot(b, l, wide, high); want != -1 {
			if n, s, e := cry.Soon(b, wide, high); n != m || s != want || e != api.OK {
				t.Fatalf("Soon %d by %d of %v: %d, %d, %d", wide, high, b, n, s, e)
			}
			return
		}
	}
	if n, s, e := cry.Soon(b, wide, high); n != 0 || s != 0 || e != api.ErrNone {
		t.Fatalf("Soon %d by %d of %v: %d, %d, %d", wide, high, b, n, s, e)
	}
}

// TestTrueShoal is of P1.9: wherever a shoal truly swims, and whatever is rightly cried of it.
func TestTrueShoal(t *testing.T) {
	r := chance(2)
	for range rounds {
		b, path := anyTrueBook(r, r.IntN(9))
		wide, high := 1+r.IntN(10), 1+r.IntN(10)
		for m, s := range path {
			if is, e := cry.Can(b, m, s); !is || e != api.OK {
				t.Fatalf("the shoal is in %d at %d, but Can of %v: %v, %d", s, m, b, is, e)
			}
			if l, e := cry.Where(b, m); !slices.Contains(l, s) || e != api.OK {
				t.Fatalf("the shoal is in %d at %d, but Where of %v: %v, %d", s, m, b, l, e)
			}
			if at, e := cry.Shot(b, m, wide, high); e == api.OK && !incloses(b, at, wide, high, s) {
				t.Fatalf("the shoal is in %d at %d, but the seine of %v at %d", s, m, b, at)
			}
		}
		if m, at, e := cry.Soon(b, wide, high); e == api.OK && !incloses(b, at, wide, high, path[m]) {
			t.Fatalf("the shoal is in %d at %d, but the seine of %v at %d", path[m], m, b, at)
		}
		if l, e := cry.Wrong(b); len(l) != 0 || e != api.OK {
			t.Fatalf("all cries of %v are right, but Wrong: %v, %d", b, l, e)
		}
		if is, e := cry.Fits(b, rightly(b, path, anyCry(r))); !is || e != api.OK {
			t.Fatalf("a right cry does not fit in %v: %v, %d", b, is, e)
		}
	}
}

// TestOneCryMore is of P1.10: one cry more, and another order.
func TestOneCryMore(t *testing.T) {
	r := chance(3)
	for range rounds {
		b, _ := anyTrueBook(r, 1+r.IntN(7))
		before := everywhere(b)
		after := everywhere(with(b, anyCry(r)))
		for m := range before {
			if !inside(after[m], before[m]) {
				t.Fatalf("a cry more in %v: at %d %v, not %v", b, m, after[m], before[m])
			}
		}
		shuffled := with(b)
		r.Shuffle(len(b.Cries), func(i, j int) {
			shuffled.Cries[i], shuffled.Cries[j] = shuffled.Cries[j], shuffled.Cries[i]
		})
		if !reflect.DeepEqual(everywhere(shuffled), before) {
			t.Fatalf("the order of cries makes a difference in %v", b)
		}
	}
}

// TestOnAndBack is of P1.11: from each square the shoal can come and go on.
func TestOnAndBack(t *testing.T) {
	r := chance(4)
	for range rounds {
		b, _ := anyTrueBook(r, r.IntN(9))
		all := everywhere(b)
		for m, l := range all {
			for _, s := range l {
				reached := func(o int) bool { return near(b, s, o) }
				if m < 30 && !slices.ContainsFunc(all[m+1], reached) || m > 0 && !slices.ContainsFunc(all[m-1], reached) {
					t.Fatalf("the square %d at %d of %v is alone", s, m, b)
				}
			}
		}
	}
}

// TestFewestWrong is of P1.12, and of P1.7: the list is the first of all by which the book can be true.
func TestFewestWrong(t *testing.T) {
	r := chance(5)
	for range rounds / 3 {
		b := anyBook(r, r.IntN(9))
		var want []int
		e := api.ErrCryFalse
		for _, l := range lists(len(b.Cries)) {
			if is, _ := cry.Right(without(b, l)); is {
				want, e = l, api.OK
				break
			}
		}
		if l, f := cry.Wrong(b); !slices.Equal(l, want) || f != e {
			t.Fatalf("Wrong of %v: %v, %d, not %v, %d", b, l, f, want, e)
		}
	}
}

// TestGreaterSeine is of P1.13.
func TestGreaterSeine(t *testing.T) {
	r := chance(6)
	for range rounds {
		b, _ := anyTrueBook(r, r.IntN(9))
		m := r.IntN(31)
		apart, _ := cry.Apart(b, m)
		if _, e := cry.Shot(b, m, apart+1, apart+1); e != api.OK {
			t.Fatalf("a seine of %d at %d of %v: %d", apart+1, m, b, e)
		}
		if _, e := cry.Shot(b, m, max(apart, 1), max(apart, 1)); apart > 0 && e != api.ErrNone {
			t.Fatalf("a seine of %d at %d of %v: %d", apart, m, b, e)
		}
		wide, high := 1+r.IntN(9), 1+r.IntN(9)
		if _, e := cry.Shot(b, m, wide, high); e != api.OK {
			continue
		}
		_, wider := cry.Shot(b, m, wide+1, high)
		_, higher := cry.Shot(b, m, wide, high+1)
		if wider != api.OK || higher != api.OK {
			t.Fatalf("a seine of %d by %d at %d of %v incloses it, a greater one not: %d, %d", wide, high, m, b, wider, higher)
		}
	}
}

// TestOneOfBoth is of P1.14: it sees, or it does not.
func TestOneOfBoth(t *testing.T) {
	r := chance(7)
	for range rounds {
		b := anyBook(r, r.IntN(4))
		right, _ := cry.Right(b)
		is := anyCry(r)
		is.Kind = api.CrySees
		isNot := is
		isNot.Kind = api.CryNot
		one, _ := cry.Fits(b, is)
		other, _ := cry.Fits(b, isNot)
		if (one || other) != right {
			t.Fatalf("%v in %v: %v, %v, but the book: %v", is, b, one, other, right)
		}
		if both, _ := cry.Fits(with(b, is), isNot); both {
			t.Fatalf("%v in %v is and is not", is, b)
		}
	}
}

// all are the results of all functions of a book.
func all(b api.CryBook, cryNumber, minute, square, wide, high int, c api.CryCry) []any {
	seen, e1 := cry.Seen(b, cryNumber)
	right, e2 := cry.Right(b)
	where, e3 := cry.Where(b, minute)
	can, e4 := cry.Can(b, minute, square)
	apart, e5 := cry.Apart(b, minute)
	shot, e6 := cry.Shot(b, minute, wide, high)
	soon, at, e7 := cry.Soon(b, wide, high)
	fits, e8 := cry.Fits(b, c)
	wrong, e9 := cry.Wrong(b)
	return []any{cry.Check(b), seen, e1, right, e2, where, e3, can, e4, apart, e5, shot, e6, soon, at, e7, fits, e8, wrong, e9}
}

// copied is a book that shares no memory with another one.
func copied(b api.CryBook) api.CryBook {
	b.Land, b.Cries = slices.Clone(b.Land), slices.Clone(b.Cries)
	return b
}

// TestOnlyRead is of P1.8: arguments are only read, up to the capacity of their lists, and results are new memory.
func TestOnlyRead(t *testing.T) {
	r := chance(8)
	for i := range rounds {
		b := anyBook(r, r.IntN(9))
		if i%2 == 0 {
			b, _ = anyTrueBook(r, r.IntN(9))
		}
		// room behind the lists, which is not theirs
		land := append(slices.Clone(b.Land), 77, 78, 79)
		cries := append(slices.Clone(b.Cries), at(1, 1), at(2, 2))
		b.Land, b.Cries = land[:len(b.Land)], cries[:len(b.Cries)]
		landBefore, criesBefore := slices.Clone(land), slices.Clone(cries)
		c := anyCry(r)
		first := all(b, 0, 3, 0, 4, 4, c)
		if !slices.Equal(land, landBefore) || !slices.Equal(cries, criesBefore) {
			t.Fatalf("the book %v was changed", b)
		}
		again := all(b, 0, 3, 0, 4, 4, c)
		for _, x := range first {
			if l, ok := x.([]int); ok {
				for i := range l[:cap(l)] {
					l[:cap(l)][i] = -7
				}
			}
		}
		if !slices.Equal(land, landBefore) || !reflect.DeepEqual(again, all(b, 0, 3, 0, 4, 4, c)) {
			t.Fatalf("results of %v share memory", b)
		}
	}
}

// TestSameAgain is of P2: what was called before, and where the arguments lie, makes no difference.
func TestSameAgain(t *testing.T) {
	r := chance(9)
	type call struct {
		b api.CryBook
		c api.CryCry
	}
	var calls []call
	var results [][]any
	for i := range rounds {
		b := anyBook(r, r.IntN(9))
		if i%2 == 0 {
			b, _ = anyTrueBook(r, r.IntN(9))
		}
		x := call{b, anyCry(r)}
		calls = append(calls, x)
		results = append(results, all(x.b, 1, i%31, 1, 3, 3, x.c))
	}
	for _, i := range r.Perm(len(calls)) {
		if l := all(copied(calls[i].b), 1, i%31, 1, 3, 3, calls[i].c); !reflect.DeepEqual(l, results[i]) {
			t.Fatalf("the book %v: first %v, then %v", calls[i].b, results[i], l)
		}
	}
}

// TestNilAndEmpty is of rule R3, for P1.1: there is no difference between a nil list and an empty one.
func TestNilAndEmpty(t *testing.T) {
	one := api.CryBook{Wide: 3, High: 2}
	other := api.CryBook{Wide: 3, High: 2, Land: []int{}, Cries: []api.CryCry{}}
	if l, m := all(one, 0, 0, 0, 2, 2, at(0, 0)), all(other, 0, 0, 0, 2, 2, at(0, 0)); !reflect.DeepEqual(l, m) {
		t.Errorf("nil lists: %v, empty ones: %v", l, m)
	}
}

// wild is a number that is likely to be wrong.
func wild(r *rand.Rand) int {
	numbers := []int{0, 1, 2, 3, 8, 9, 10, 11, 30, 31, 80, -1, -5, -9, -10, math.MaxInt, math.MinInt, math.MaxInt32, math.MinInt32, math.MaxInt / 2, 1 << 62, 1 << 32}
	return numbers[r.IntN(len(numbers))]
}

// wildCry is a cry of any numbers.
func wildCry(r *rand.Rand) api.CryCry {
	if r.IntN(3) > 0 {
		return anyCry(r)
	}
	return api.CryCry{Huer: wild(r), Minute: wild(r), Kind: wild(r), From: to(wild(r), wild(r)), To: to(wild(r), wild(r))}
}

// wildBook is a book of which some numbers are any.
func wildBook(r *rand.Rand) api.CryBook {
	b := anyBook(r, 0)
	for _, field := range []*int{&b.Wide, &b.High, &b.Heads[0], &b.Heads[1], &b.Swim} {
		if r.IntN(8) == 0 {
			*field = wild(r)
		}
	}
	if r.IntN(4) == 0 {
		b.Land = append(b.Land, wild(r), wild(r))
	}
	if r.IntN(20) == 0 {
		b.Land = make([]int, 100000)
		b.Cries = make([]api.CryCry, 100000)
	}
	for range r.IntN(10) {
		b.Cries = append(b.Cries, wildCry(r))
	}
	return b
}

// TestAnyArguments is of P1: every function ends, without a panic, and with an error all other results are zero values.
func TestAnyArguments(t *testing.T) {
	r := chance(10)
	for range 4000 {
		b := wildBook(r)
		results := all(b, wild(r), wild(r), wild(r), wild(r), wild(r), wildCry(r))
		for i, x := range results {
			e, ok := x.(api.Errno)
			if i == 0 || !ok || e == api.OK {
				continue
			}
			for j := i - 1; j > 0; j-- {
				if _, is := results[j].(api.Errno); is {
					break
				}
				if v := reflect.ValueOf(results[j]); !v.IsZero() && !(v.Kind() == reflect.Slice && v.Len() == 0) {
					t.Fatalf("the book %v: %v", b, results)
				}
			}
		}
	}
}

// TestMostWork is of P1: the books that take the longest end soon, too.
func TestMostWork(t *testing.T) {
	b := api.CryBook{Wide: 10, High: 8, Swim: 3}
	for range 8 {
		b.Cries = append(b.Cries, sees(0, 30, to(-9, 1), to(-9, 1)))
	}
	if l, e := cry.Wrong(b); len(l) != 8 || e != api.OK {
		t.Errorf("Wrong: %v, %d", l, e)
	}
}
