package seine_test

import (
	"slices"
	"testing"

	"huer/api"
	"huer/seine"
)

// changeNote is the book of the examples after a change of one of its notes.
func changeNote(number int, what func(n *api.SeineNote)) api.SeineBook {
	return change(book(), func(b *api.SeineBook) { what(&b.Notes[number]) })
}

// changeMany is the book of the examples with other numbers of one of its notes.
func changeMany(number int, many api.Span) api.SeineBook {
	return changeNote(number, func(n *api.SeineNote) { n.Many = many })
}

// eight are as many notes as a book can have.
func eight(n api.SeineNote) []api.SeineNote { return slices.Repeat([]api.SeineNote{n}, 8) }

// TestCheckValid is of P3.1: each limit, and what it includes.
func TestCheckValid(t *testing.T) {
	for i, b := range []api.SeineBook{
		{}, book(), leaky(), torn(),
		inclosed(0, 12), inclosed(388, 400), inclosed(400, 400), inclosed(7, 7),
		inclosed(5, 5, eight(mend(60))...), inclosed(5, 5, eight(tuck(0, 0, 0))...),
		book(tuck(20, 388, 400)), book(dogs(60, 388, 400)), book(sound(60, 388, 400)), book(breach(60, 0, 9)), book(mend(60)), book(breach(20, 9, 9)),
		book(tuck(60, 0, 12)), book(dogs(60, 0, 12)), book(sound(60, 0, 12)), book(breach(60, 0, 0)),
	} {
		if e := seine.Check(b); e != api.OK {
			t.Errorf("Check of the valid book %d: %d", i, e)
		}
	}
}

// wrongBooks are books that are not valid, each by one thing.
func wrongBooks() []api.SeineBook {
	return []api.SeineBook{
		inclosed(1, 0), inclosed(-1, 0), inclosed(-1, -1), inclosed(395, 401), inclosed(401, 401), inclosed(100, 113), inclosed(0, 400),
		inclosed(5, 5, append(eight(mend(60)), mend(60))...),
		changeNote(0, func(n *api.SeineNote) { n.Kind = 5 }),
		changeNote(0, func(n *api.SeineNote) { n.Kind = -1 }),
		changeNote(0, func(n *api.SeineNote) { n.Hour = -1 }),
		changeNote(3, func(n *api.SeineNote) { n.Hour = 61 }),
		changeNote(0, func(n *api.SeineNote) { n.Hour = 9 }),
		changeNote(3, func(n *api.SeineNote) { n.Hour = 17 }),
		changeMany(0, to(30, 29)), changeMany(0, to(-1, 5)), changeMany(0, to(30, 43)), changeMany(0, to(395, 401)),
		changeMany(1, to(3, 1)), changeMany(1, to(-1, 3)), changeMany(1, to(1, 10)), changeMany(1, to(10, 10)),
		changeMany(2, to(0, 1)), changeMany(2, to(1, 1)), changeMany(2, to(-1, 0)),
		changeMany(3, to(55, 45)), changeMany(3, to(-3, 2)), changeMany(3, to(45, 58)), changeMany(3, to(401, 401)),
		book(dogs(30, 5, 4)), book(dogs(30, -1, 4)), book(dogs(30, 0, 13)), book(dogs(30, 390, 401)),
	}
}

// TestCheckWrong is of P3.1: all functions return the error of a wrong book first.
func TestCheckWrong(t *testing.T) {
	for i, b := range wrongBooks() {
		for _, number := range []int{0, -1} {
			for f, e := range errorsOf(results(b, number, number, note(number, 0, just(0)))) {
				if e != api.ErrSeine {
					t.Errorf("the wrong book %d, the function %d, asked %d: %d", i, f, number, e)
				}
			}
		}
	}
}

// TestErrors is of P3.1 to P3.7: which number is wrong to ask of which function, and that this comes before notes that are false.
func TestErrors(t *testing.T) {
	const ok, ask, none, lie = api.OK, api.ErrSeineAsk, api.ErrNone, api.ErrSeineFalse
	for i, x := range []struct {
		b          api.SeineBook
		hour, many int
		n          api.SeineNote
		want       []api.Errno
	}{
		{leaky(), 0, 0, mend(0), []api.Errno{ok, ok, ok, ok, ok, ok, ok, ok, ok}},
		{leaky(), 60, 400, mend(60), []api.Errno{ok, ok, ok, ok, ok, ok, ok, ok, ok}},
		{book(), 0, 0, mend(0), []api.Errno{ok, ok, ok, ok, ok, none, ok, ok, ok}},
		{leaky(), -1, 0, mend(0), []api.Errno{ok, ok, ask, ask, ask, ok, ok, ok, ok}},
		{leaky(), 61, 0, mend(0), []api.Errno{ok, ok, ask, ask, ask, ok, ok, ok, ok}},
		{leaky(), 0, -1, mend(0), []api.Errno{ok, ok, ask, ok, ok, ok, ok, ok, ok}},
		{leaky(), 0, 401, mend(0), []api.Errno{ok, ok, ask, ok, ok, ok, ok, ok, ok}},
		{torn(), 0, 0, mend(0), []api.Errno{ok, ok, lie, lie, lie, lie, lie, ok, ok}},
		{torn(), 61, 0, mend(61), []api.Errno{ok, ok, ask, ask, ask, lie, lie, ask, ok}},
		{torn(), -1, 401, mend(-1), []api.Errno{ok, ok, ask, ask, ask, lie, lie, ask, ok}},
		{torn(), 0, 401, note(5, 0, just(0)), []api.Errno{ok, ok, ask, lie, lie, lie, lie, ask, ok}},
	} {
		if l := errorsOf(results(x.b, x.hour, x.many, x.n)); !slices.Equal(l, x.want) {
			t.Errorf("the errors %d: %v, not %v", i, l, x.want)
		}
	}
	for i, n := range []api.SeineNote{
		note(5, 0, just(0)), note(-1, 0, just(0)), tuck(-1, 0, 0), tuck(61, 0, 0), tuck(5, 0, 13), tuck(5, 400, 401), tuck(5, -1, 0), tuck(5, 3, 2),
		breach(5, 0, 10), breach(5, -1, 0), breach(5, 2, 1), note(api.SeineMend, 5, to(0, 1)), note(api.SeineMend, 5, just(1)), dogs(5, 0, 13), dogs(5, 401, 401), sound(5, -1, -1), sound(5, 388, 401),
	} {
		if is, e := seine.Fits(leaky(), n); is || e != ask {
			t.Errorf("the wrong note %d: %v, %d", i, is, e)
		}
	}
}

// TestRight is of P3.1 and P3.7: Right, and Wrong, which is empty just then.
func TestRight(t *testing.T) {
	for i, x := range []struct {
		b    api.SeineBook
		want []int
	}{
		{api.SeineBook{}, nil}, {book(), nil}, {leaky(), nil}, {torn(), []int{3}},
		// the number tucked out can be all, and no more
		{inclosed(5, 8, tuck(0, 8, 9)), nil}, {inclosed(5, 8, tuck(0, 9, 10)), []int{0}}, {inclosed(5, 8, dogs(0, 9, 10)), nil},
		{inclosed(10, 10, breach(0, 1, 1), tuck(3, 7, 7)), nil}, {inclosed(10, 10, breach(0, 1, 1), tuck(3, 8, 8)), []int{0}},
		// notes of an hour are in their order
		{inclosed(10, 10, sound(5, 10, 10), tuck(5, 1, 1), sound(5, 9, 9)), nil}, {inclosed(10, 10, tuck(5, 1, 1), sound(5, 10, 10)), []int{0}},
		{inclosed(10, 10, breach(5, 1, 1), sound(5, 10, 10), sound(6, 9, 9)), nil}, {inclosed(10, 10, breach(5, 1, 1), mend(6), sound(60, 9, 9)), nil},
		// mending ends all breaches, and a later one is another one
		{inclosed(20, 20, breach(0, 1, 1), breach(1, 2, 2), mend(2), sound(5, 16, 16), breach(5, 1, 1), sound(7, 14, 14)), nil},
		// the number of a note is the same at all times
		{inclosed(30, 30, breach(0, 1, 2), sound(5, 25, 25), sound(10, 10, 10)), []int{1}},
		{inclosed(30, 30, breach(0, 1, 2), sound(5, 20, 25), sound(10, 10, 10)), nil},
		{inclosed(0, 9, sound(0, 3, 4), sound(1, 5, 6)), []int{0}}, {inclosed(0, 9, sound(0, 3, 5), sound(1, 5, 6)), nil},
		// the fewest before the first, and the first of several
		{inclosed(10, 10, sound(1, 9, 9), sound(1, 10, 10), sound(1, 11, 11)), []int{0, 2}},
		{inclosed(10, 10, sound(0, 9, 9), dogs(1, 1, 1), sound(1, 9, 9)), []int{0}},
		{inclosed(10, 10, tuck(1, 6, 6), tuck(2, 6, 6)), []int{0}},
		{inclosed(10, 10, tuck(1, 3, 3), tuck(2, 3, 3), tuck(3, 9, 9)), []int{2}},
		{inclosed(10, 10, tuck(1, 4, 4), tuck(2, 4, 4), tuck(3, 4, 4), tuck(4, 3, 3)), []int{0, 1}},
		{inclosed(10, 12, sound(0, 13, 13), sound(1, 10, 10), sound(2, 12, 12), sound(3, 11, 11)), []int{0, 1, 2}},
		{inclosed(10, 10, eight(tuck(3, 11, 11))...), []int{0, 1, 2, 3, 4, 5, 6, 7}},
		// it is enough to leave out what is right by itself
		{inclosed(10, 10, breach(0, 1, 1), sound(2, 10, 10), sound(4, 10, 10)), []int{0}},
		{inclosed(10, 10, sound(1, 10, 10), mend(2), breach(2, 9, 9), sound(5, 10, 10), sound(6, 10, 10)), []int{2}},
	} {
		if l, e := seine.Wrong(x.b); !slices.Equal(l, x.want) || e != api.OK {
			t.Errorf("Wrong %d: %v, %d", i, l, e)
		}
		if is, e := seine.Right(x.b); is != (len(x.want) == 0) || e != api.OK {
			t.Errorf("Right %d: %v, %d", i, is, e)
		}
	}
}

// TestCan is of P3.2.
func TestCan(t *testing.T) {
	gaps := inclosed(100, 100, breach(0, 0, 3), mend(10))
	for i, x := range []struct {
		b          api.SeineBook
		hour, many int
		want       bool
	}{
		{book(), 20, 50, true}, {book(), 20, 56, false}, {book(), 10, 75, false}, {book(), 10, 74, true}, {book(), 10, 66, true}, {book(), 10, 65, false},
		{gaps, 10, 100, true}, {gaps, 10, 90, true}, {gaps, 10, 85, false}, {gaps, 10, 70, true}, {gaps, 60, 80, true}, {gaps, 60, 81, false}, {gaps, 0, 100, true}, {gaps, 0, 99, false},
		{inclosed(400, 400), 60, 400, true}, {inclosed(400, 400), 60, 0, false}, {inclosed(0, 0), 0, 0, true}, {leaky(), 60, 0, true}, {leaky(), 60, 1, false},
	} {
		if is, e := seine.Can(x.b, x.hour, x.many); is != x.want || e != api.OK {
			t.Errorf("Can %d: %v, %d", i, is, e)
		}
	}
}

// TestHeld is of P3.3: Held and Rate.
func TestHeld(t *testing.T) {
	for i, x := range []struct {
		b          api.SeineBook
		hour       int
		held, rate api.Span
	}{
		{book(), 0, to(100, 110), just(0)}, {book(), 5, to(100, 110), just(0)}, {book(), 6, to(70, 80), just(0)}, {book(), 7, to(70, 80), just(0)},
		{book(), 8, to(70, 80), to(2, 3)}, {book(), 10, to(66, 74), to(2, 3)}, {book(), 18, to(45, 55), just(0)}, {book(), 20, to(45, 55), just(0)}, {book(), 60, to(45, 55), just(0)},
		{leaky(), 1, to(20, 24), just(0)}, {leaky(), 2, to(20, 24), to(2, 3)}, {leaky(), 3, to(17, 22), to(2, 3)}, {leaky(), 5, to(11, 18), to(2, 3)}, {leaky(), 13, to(0, 2), to(2, 3)}, {leaky(), 60, just(0), to(2, 3)},
		// breaches add up, until they are mended
		{leaky(breach(4, 1, 1)), 5, to(10, 17), to(3, 4)}, {leaky(breach(4, 1, 1), mend(6)), 6, to(6, 14), just(0)}, {leaky(mend(2)), 60, to(20, 24), just(0)}, {leaky(mend(2), breach(60, 0, 9)), 60, to(20, 24), to(0, 9)},
		// what is sounded later is known before
		{leaky(sound(5, 11, 11)), 0, just(20), just(0)}, {leaky(sound(5, 11, 11)), 5, just(11), just(3)}, {leaky(sound(5, 18, 20)), 60, just(0), just(2)}, {leaky(tuck(14, 0, 0)), 3, to(17, 22), to(2, 3)}, {leaky(tuck(13, 1, 9)), 3, to(21, 22), just(2)},
		// notes of the hour count, in their order
		{inclosed(9, 9, sound(0, 9, 9), tuck(0, 2, 2), dogs(0, 3, 3)), 0, just(4), just(0)}, {inclosed(3, 5, dogs(1, 4, 4)), 1, to(0, 1), just(0)}, {inclosed(3, 5, tuck(1, 4, 4)), 0, to(4, 5), just(0)}, {inclosed(3, 5, dogs(1, 4, 4), sound(1, 1, 9)), 0, just(5), just(0)},
		{inclosed(0, 0), 60, just(0), just(0)}, {inclosed(400, 400, breach(0, 9, 9)), 44, just(4), just(9)}, {inclosed(400, 400, breach(0, 9, 9)), 45, just(0), just(9)}, {inclosed(400, 400, eight(breach(0, 9, 9))...), 5, just(40), just(72)},
	} {
		if s, e := seine.Held(x.b, x.hour); s != x.held || e != api.OK {
			t.Errorf("Held %d: %v, %d", i, s, e)
		}
		if s, e := seine.Rate(x.b, x.hour); s != x.rate || e != api.OK {
			t.Errorf("Rate %d: %v, %d", i, s, e)
		}
	}
}

// TestEmpty is of P3.4 and P3.5: Empty and Saved.
func TestEmpty(t *testing.T) {
	for i, x := range []struct {
		b     api.SeineBook
		empty int
		e     api.Errno
		saved api.Span
	}{
		{book(), 0, api.ErrNone, just(0)}, {leaky(), 14, api.OK, to(20, 24)}, {leaky(tuck(3, 20, 20)), 4, api.OK, to(0, 2)}, {leaky(sound(60, 0, 0)), 14, api.OK, just(0)},
		{api.SeineBook{}, 0, api.OK, just(0)}, {inclosed(0, 1), 0, api.ErrNone, just(0)}, {inclosed(1, 1, dogs(0, 1, 1)), 0, api.OK, just(0)}, {inclosed(6, 8, dogs(60, 8, 8)), 60, api.OK, just(0)}, {inclosed(6, 8, dogs(60, 7, 8)), 0, api.ErrNone, just(0)},
		{inclosed(60, 60, breach(0, 1, 1)), 60, api.OK, just(60)}, {inclosed(61, 61, breach(0, 1, 1)), 0, api.ErrNone, just(60)}, {inclosed(60, 60, breach(1, 1, 1)), 0, api.ErrNone, just(59)},
		// mending is behind the last note, whatever this one is
		{inclosed(50, 52, breach(55, 1, 2)), 0, api.ErrNone, to(5, 10)}, {inclosed(50, 52, breach(60, 9, 9)), 0, api.ErrNone, just(0)}, {inclosed(50, 52, breach(50, 1, 1), sound(55, 45, 46)), 0, api.ErrNone, just(5)}, {inclosed(50, 52, breach(50, 1, 1), mend(55)), 0, api.ErrNone, just(0)},
		{inclosed(6, 8, breach(50, 0, 1)), 0, api.ErrNone, to(0, 8)}, {inclosed(6, 8, breach(50, 3, 3), dogs(50, 2, 3)), 52, api.OK, to(3, 6)},
	} {
		if n, e := seine.Empty(x.b); n != x.empty || e != x.e {
			t.Errorf("Empty %d: %d, %d", i, n, e)
		}
		if s, e := seine.Saved(x.b); s != x.saved || e != api.OK {
			t.Errorf("Saved %d: %v, %d", i, s, e)
		}
	}
}

// TestFits is of P3.6.
func TestFits(t *testing.T) {
	known := inclosed(10, 10, sound(5, 7, 7))
	for i, x := range []struct {
		b    api.SeineBook
		n    api.SeineNote
		want bool
	}{
		{book(), tuck(21, 50, 55), true}, {book(), tuck(21, 56, 60), false}, {book(), sound(6, 80, 80), true}, {book(), sound(6, 81, 81), false},
		// it is behind all that are not later
		{book(), sound(5, 100, 100), true}, {book(), sound(6, 100, 100), false}, {book(), sound(20, 45, 45), true}, {book(), tuck(20, 46, 46), true},
		{known, dogs(4, 3, 3), true}, {known, dogs(5, 3, 3), false}, {known, tuck(0, 3, 3), true}, {known, sound(60, 7, 7), false},
		{book(), dogs(15, 10, 10), true}, {book(), dogs(15, 30, 30), false}, {book(), breach(0, 9, 9), false}, {book(), breach(60, 9, 9), true}, {book(), mend(0), true}, {book(), mend(8), false}, {book(), mend(9), false}, {book(), mend(60), true},
		// a book that cannot be true can be so with it
		{torn(), mend(60), false}, {inclosed(10, 10, sound(5, 7, 7), sound(6, 7, 7)), dogs(3, 3, 3), true}, {inclosed(10, 10, sound(5, 7, 7), sound(6, 7, 7)), dogs(5, 3, 3), false},
		// nine notes
		{inclosed(10, 10, eight(mend(1))...), sound(1, 10, 10), true}, {inclosed(10, 10, eight(mend(1))...), sound(1, 11, 11), false}, {inclosed(400, 400, eight(breach(0, 9, 9))...), breach(0, 9, 9), true},
		{api.SeineBook{}, tuck(0, 0, 0), true}, {api.SeineBook{}, tuck(0, 1, 1), false}, {api.SeineBook{}, dogs(0, 400, 400), true},
	} {
		if is, e := seine.Fits(x.b, x.n); is != x.want || e != api.OK {
			t.Errorf("Fits %d: %v, %d", i, is, e)
		}
	}
}
