package seine_test

import (
	"math"
	"math/rand/v2"
	"reflect"
	"slices"
	"testing"

	"huer/api"
	"huer/seine"
)

// rounds is how many books each test of a property tries.
const rounds = 200

// TestAgainstSlow is of P3.1 to P3.6: all answers are those that follow, slowly, from the chapter's definitions.
func TestAgainstSlow(t *testing.T) {
	r := chance(1)
	for range rounds {
		b := smallBook(r)
		all := trueOnes(b)
		if is, e := seine.Right(b); is != (len(all) > 0) || e != api.OK {
			t.Fatalf("Right of %v: %v, %d", b, is, e)
		}
		n := anyNote(r, 1)
		if is, e := seine.Fits(b, n); is != (len(trueOnes(inserted(b, n))) > 0) || e != api.OK {
			t.Fatalf("Fits %v in %v: %v, %d", n, b, is, e)
		}
		if len(all) > 0 {
			checkHours(t, b, lives(b, all))
			saved := spanOf(all, func(x truth) int { return x.mended(b.Notes) })
			if s, e := seine.Saved(b); s != saved || e != api.OK {
				t.Fatalf("Saved of %v: %v, %d", b, s, e)
			}
		}
	}
}

// checkHours compares what is told of all hours with what the seine holds in all truths.
func checkHours(t *testing.T, b api.SeineBook, all []life) {
	t.Helper()
	empty, none := 0, api.ErrNone
	for hour := 60; hour >= 0; hour-- {
		held := spanOf(all, func(l life) int { return l.held[hour] })
		rate := spanOf(all, func(l life) int { return l.rate[hour] })
		if s, e := seine.Held(b, hour); s != held || e != api.OK {
			t.Fatalf("Held %d of %v: %v, %d, not %v", hour, b, s, e, held)
		}
		if s, e := seine.Rate(b, hour); s != rate || e != api.OK {
			t.Fatalf("Rate %d of %v: %v, %d, not %v", hour, b, s, e, rate)
		}
		for many := max(held.Low-2, 0); many <= min(held.High+2, 400); many++ {
			can := slices.ContainsFunc(all, func(l life) bool { return l.held[hour] == many })
			if is, e := seine.Can(b, hour, many); is != can || e != api.OK {
				t.Fatalf("Can %d, %d of %v: %v, %d", hour, many, b, is, e)
			}
		}
		if held == just(0) {
			empty, none = hour, api.OK
		}
	}
	if n, e := seine.Empty(b); n != empty || e != none {
		t.Fatalf("Empty of %v: %d, %d, not %d", b, n, e, empty)
	}
}

// TestFewestWrong is of P3.12, and of P3.7: the list is the first of all by which the book can be true.
func TestFewestWrong(t *testing.T) {
	r := chance(2)
	for i := range rounds {
		b := smallBook(r)
		if i%4 == 0 {
			b = quarrel(r)
		}
		l, e := seine.Wrong(b)
		if want := slowWrong(b); !slices.Equal(l, want) || e != api.OK {
			t.Fatalf("Wrong of %v: %v, %d, not %v", b, l, e, want)
		}
		if is, e := seine.Right(without(b, l)); !is || e != api.OK {
			t.Fatalf("%v without %v: %v, %d", b, l, is, e)
		}
	}
}

// TestTrueSeine is of P3.9: whatever was truly inclosed, taken, lost and eaten, and however it was rightly noted.
func TestTrueSeine(t *testing.T) {
	r := chance(3)
	for range rounds {
		b, l := anyTrueBook(r, 12)
		for hour := 0; hour <= 60; hour += 3 {
			held, e := seine.Held(b, hour)
			if many := l.held[hour]; many < held.Low || many > held.High || e != api.OK {
				t.Fatalf("it holds %d at %d, but Held of %v: %v, %d", many, hour, b, held, e)
			}
			rate, e := seine.Rate(b, hour)
			if many := l.rate[hour]; many < rate.Low || many > rate.High || e != api.OK {
				t.Fatalf("it loses %d at %d, but Rate of %v: %v, %d", many, hour, b, rate, e)
			}
			if is, e := seine.Can(b, hour, l.held[hour]); !is || e != api.OK {
				t.Fatalf("it holds %d at %d, but Can of %v: %v, %d", l.held[hour], hour, b, is, e)
			}
		}
		if n, e := seine.Empty(b); e == api.OK && l.held[n] > 0 {
			t.Fatalf("it holds %d at %d, but is empty by %v", l.held[n], n, b)
		}
		if wrong, e := seine.Wrong(b); len(wrong) > 0 || e != api.OK {
			t.Fatalf("all notes of %v are right, but Wrong: %v, %d", b, wrong, e)
		}
	}
}

// TestBothEnds is of P3.10: both ends can be, and what can be is what could be sounded.
func TestBothEnds(t *testing.T) {
	r := chance(4)
	for range rounds {
		b, _ := anyTrueBook(r, r.IntN(13))
		hour := r.IntN(61)
		held, _ := seine.Held(b, hour)
		for _, many := range []int{held.Low, held.High, r.IntN(401), held.Low + r.IntN(held.High-held.Low+1)} {
			is, e := seine.Can(b, hour, many)
			if (many == held.Low || many == held.High) && !is || e != api.OK {
				t.Fatalf("an end of %v at %d of %v: Can %v, %d", held, hour, b, is, e)
			}
			if fits, e := seine.Fits(b, sound(hour, many, many)); fits != is || e != api.OK {
				t.Fatalf("%d can be at %d of %v: %v, but it could be sounded: %v, %d", many, hour, b, is, fits, e)
			}
		}
	}
}

// TestOneNoteMore is of P3.11: a sounding, and any other note behind all others.
func TestOneNoteMore(t *testing.T) {
	r := chance(5)
	for i := range rounds {
		b, l := anyTrueBook(r, r.IntN(13))
		if len(b.Notes) == 8 {
			continue
		}
		hour := r.IntN(61)
		n, last := sound(hour, 0, 0), 60
		n.Many = around(r, l.held[hour], 400, 12)
		if i%2 == 0 {
			n = anyNote(r, 12)
			for _, before := range b.Notes {
				n.Hour = max(n.Hour, before.Hour)
			}
			last = n.Hour - 1
		}
		more := inserted(b, n)
		for hour := 0; hour <= last; hour += 7 {
			if before, after := canHold(b, hour), canHold(more, hour); !inside(after, before) {
				t.Fatalf("with %v in %v: at %d %v, not %v", n, b, hour, after, before)
			}
		}
	}
}

// TestNeverMore is of P3.13: a seine never holds more at a later hour, and stays empty.
func TestNeverMore(t *testing.T) {
	r := chance(6)
	for range rounds {
		b, _ := anyTrueBook(r, r.IntN(13))
		empty, e := seine.Empty(b)
		before := b.Inclosed
		for hour := range 61 {
			held, _ := seine.Held(b, hour)
			if held.Low > before.Low && hour > 0 || held.High > before.High {
				t.Fatalf("%v at %d of %v, but %v before", held, hour, b, before)
			}
			if is := e == api.OK && hour >= empty; is != (held == just(0)) {
				t.Fatalf("%v at %d of %v, but Empty: %d, %d", held, hour, b, empty, e)
			}
			before = held
		}
	}
}

// TestMending is of P3.14: what mending saves.
func TestMending(t *testing.T) {
	r := chance(7)
	for range rounds {
		b, _ := anyTrueBook(r, r.IntN(13))
		hour := 0
		for _, n := range b.Notes {
			hour = n.Hour
		}
		saved, _ := seine.Saved(b)
		rate, _ := seine.Rate(b, hour)
		held, _ := seine.Held(b, hour)
		if rate == just(0) && saved != just(0) || saved.Low > held.Low || saved.High > held.High || saved.Low < 0 {
			t.Fatalf("%v is saved of %v, which loses %v at %d of %v", saved, held, rate, hour, b)
		}
		if hour == 60 && saved != just(0) {
			t.Fatalf("%v is saved at the last hour of %v", saved, b)
		}
	}
}

// TestOnlyRead is of P3.8: arguments are only read, up to the capacity of their lists, and results are new memory.
func TestOnlyRead(t *testing.T) {
	r := chance(8)
	for range rounds {
		b := anyBook(r, r.IntN(13))
		// room behind the notes, which is not theirs
		notes := append(slices.Clone(b.Notes), tuck(1, 1, 1), mend(2))
		b.Notes = notes[:len(b.Notes)]
		before := slices.Clone(notes)
		n := anyNote(r, 12)
		first := results(b, 7, 7, n)
		if !slices.Equal(notes, before) {
			t.Fatalf("the book %v was changed", b)
		}
		again := results(b, 7, 7, n)
		for _, x := range first {
			if l, ok := x.([]int); ok {
				for i := range l[:cap(l)] {
					l[:cap(l)][i] = -7
				}
			}
		}
		if !slices.Equal(notes, before) || !reflect.DeepEqual(again, results(b, 7, 7, n)) {
			t.Fatalf("results of %v share memory", b)
		}
	}
}

// TestSameAgain is of P2: what was called before, and where the arguments lie, makes no difference.
func TestSameAgain(t *testing.T) {
	r := chance(9)
	var books []api.SeineBook
	var known [][]any
	for i := range rounds {
		b := anyBook(r, r.IntN(13))
		books = append(books, b)
		known = append(known, results(b, i%61, 9, dogs(i%61, 3, 9)))
	}
	for _, i := range r.Perm(len(books)) {
		if l := results(with(books[i]), i%61, 9, dogs(i%61, 3, 9)); !reflect.DeepEqual(l, known[i]) {
			t.Fatalf("the book %v: first %v, then %v", books[i], known[i], l)
		}
	}
}

// TestNilAndEmpty is of rule R3, for P3.1: there is no difference between a nil list and an empty one.
func TestNilAndEmpty(t *testing.T) {
	none, empty := inclosed(5, 9), inclosed(5, 9, []api.SeineNote{}...)
	empty.Notes = []api.SeineNote{}
	if l, m := results(none, 0, 5, mend(0)), results(empty, 0, 5, mend(0)); !reflect.DeepEqual(l, m) {
		t.Errorf("nil lists: %v, empty ones: %v", l, m)
	}
}

// wild is a number that is likely to be wrong.
func wild(r *rand.Rand) int {
	numbers := []int{0, 1, 2, 3, 4, 5, 9, 10, 12, 60, 61, 400, 401, -1, -2, -12, math.MaxInt, math.MinInt, math.MaxInt32, math.MinInt32, math.MaxInt / 2, 1 << 32}
	return numbers[r.IntN(len(numbers))]
}

// wildNote is a note of any numbers.
func wildNote(r *rand.Rand) api.SeineNote { return note(wild(r), wild(r), to(wild(r), wild(r))) }

// wildBook is a book of which some numbers are any.
func wildBook(r *rand.Rand) api.SeineBook {
	b := anyBook(r, 4)
	if r.IntN(8) == 0 {
		b.Inclosed = to(wild(r), wild(r))
	}
	for i := range b.Notes {
		if r.IntN(20) == 0 {
			b.Notes[i] = wildNote(r)
		}
	}
	if r.IntN(40) == 0 {
		b.Notes = make([]api.SeineNote, 100000)
	}
	return b
}

// TestAnyArguments is of P1: every function ends, without a panic, and with an error all other results are zero values.
func TestAnyArguments(t *testing.T) {
	r := chance(10)
	for range 2000 {
		b := wildBook(r)
		n := anyNote(r, 12)
		if r.IntN(2) == 0 {
			n = wildNote(r)
		}
		l := results(b, wild(r), wild(r), n)
		for i := 2; i < len(l); i += 2 {
			if v := reflect.ValueOf(l[i-1]); l[i] != api.OK && !v.IsZero() {
				t.Fatalf("the book %v: %v", b, l)
			}
		}
	}
}

// TestMostWork is of P1: the books that take the longest end soon, too.
func TestMostWork(t *testing.T) {
	b := inclosed(388, 400)
	for hour := range 8 {
		b.Notes = append(b.Notes, breach(4*hour, 0, 9))
	}
	if s, e := seine.Held(b, 60); s != to(0, 400) || e != api.OK {
		t.Errorf("Held: %v, %d", s, e)
	}
	if is, e := seine.Fits(b, dogs(60, 388, 400)); !is || e != api.OK {
		t.Errorf("Fits: %v, %d", is, e)
	}
	b.Notes[0], b.Notes[7] = sound(0, 0, 0), sound(60, 389, 400)
	if l, e := seine.Wrong(b); !slices.Equal(l, []int{0}) || e != api.OK {
		t.Errorf("Wrong: %v, %d", l, e)
	}
}
