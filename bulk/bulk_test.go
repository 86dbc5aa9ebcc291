package bulk_test

import (
	"slices"
	"testing"

	"huer/api"
	"huer/bulk"
)

// five are more lots than a book can have.
func five() []api.BulkLot {
	return slices.Repeat([]api.BulkLot{lot(just(0), none, none, none)}, 5)
}

// TestCheckValid is of P5.1: each limit, and what it includes.
func TestCheckValid(t *testing.T) {
	for i, b := range []api.BulkBook{
		book(), rowed(), torn(), plain(), book(lots(five()[:4]...)),
		book(holds(0, 1, 1)), book(holds(0, 1, 4)), book(holds(1, 6, 9)), book(holds(2, 9, 9)),
		book(wrongBy(0, 0)), book(wrongBy(0, 9)), book(wrongBy(1, 9)), book(wrongBy(2, 9)),
		book(told(0, 0, none)), book(told(0, 0, 0)), book(told(1, 1, 40)), book(told(1, 2, 40)),
		book(waste(0, 0, 0)), book(waste(0, 0, 5)), book(waste(1, 15, 20)), book(waste(1, 20, 20)),
	} {
		if e := bulk.Check(b); e != api.OK {
			t.Errorf("Check of the valid book %d: %d", i, e)
		}
	}
}

// wrongBooks are books that are not valid, each by one thing.
func wrongBooks() []api.BulkBook {
	return []api.BulkBook{
		{}, book(lots(five()...)),
		book(holds(0, 0, 3)), book(holds(0, 1, 5)), book(holds(1, 8, 10)), book(holds(1, 10, 10)), book(holds(2, 5, 9)), book(holds(2, 6, 5)), book(holds(2, 0, 0)), book(holds(0, -1, 1)),
		book(wrongBy(0, -1)), book(wrongBy(0, 10)), book(wrongBy(1, 10)), book(wrongBy(2, -1)), book(wrongBy(2, 10)),
		book(told(0, 0, -2)), book(told(0, 0, 41)), book(told(0, 1, 41)), book(told(1, 2, -2)), book(told(1, 2, 41)),
		book(waste(0, -1, 1)), book(waste(0, 0, 6)), book(waste(0, 3, 2)), book(waste(1, 18, 21)), book(waste(1, 21, 21)),
		plain(lot(to(2, 1), none, none, none)),
	}
}

// TestCheckWrong is of P5.1: all functions return the error of a wrong book first, whatever is asked.
func TestCheckWrong(t *testing.T) {
	for i, b := range wrongBooks() {
		for _, asked := range [][2]int{{0, 0}, {1, 2}, {-1, 3}, {5, -1}} {
			for f, e := range errorsOf(results(b, asked[0], asked[1])) {
				if e != api.ErrBulk {
					t.Errorf("the wrong book %d, the function %d, asked %v: %d", i, f, asked, e)
				}
			}
		}
	}
}

// TestAsk is of P5.2 to P5.6: the error of a wrong question, before that of a book that cannot be true.
func TestAsk(t *testing.T) {
	const ok, ask, not, no = api.OK, api.ErrBulkAsk, api.ErrBulkFalse, api.ErrNone
	for i, x := range []struct {
		b         api.BulkBook
		lot, kind int
		want      []api.Errno
	}{
		{book(), 0, 0, []api.Errno{ok, ok, ok, ok, ok, ok, ok, ok, ok, ok}}, {book(), 1, 2, []api.Errno{ok, ok, ok, ok, ok, ok, ok, ok, ok, ok}},
		{book(), 2, 2, []api.Errno{ok, ok, ok, ask, ask, ask, ok, ok, ok, ok}}, {book(), -1, 0, []api.Errno{ok, ok, ok, ask, ask, ask, ok, ok, ok, ok}},
		{book(), 0, 3, []api.Errno{ok, ok, ask, ok, ok, ask, ok, ok, ok, ok}}, {book(), 1, -1, []api.Errno{ok, ok, ask, ok, ok, ask, ok, ok, ok, ok}},
		{torn(), 0, 0, []api.Errno{ok, ok, not, not, not, not, not, not, not, ok}}, {torn(), 1, 3, []api.Errno{ok, ok, ask, not, not, ask, not, not, not, ok}}, {torn(), 2, 0, []api.Errno{ok, ok, not, ask, ask, ask, not, not, not, ok}}, {torn(), -1, -1, []api.Errno{ok, ok, ask, ask, ask, ask, not, not, not, ok}},
		{plain(), 0, 0, []api.Errno{ok, ok, ok, ask, ask, ask, ok, ok, no, ok}}, {plain(), 0, 3, []api.Errno{ok, ok, ask, ask, ask, ask, ok, ok, no, ok}},
	} {
		l := results(x.b, x.lot, x.kind)
		if list := errorsOf(l); !slices.Equal(list, x.want) {
			t.Errorf("the errors %d: %v, not %v", i, list, x.want)
		}
	}
}

// TestOneLot is of P5.3: Fish, Packed and Count of a lot by itself.
func TestOneLot(t *testing.T) {
	few := func(b *api.BulkBook) { b.Holds = [3]api.Span{just(9), just(9), just(9)} }
	for i, x := range []struct {
		b            api.BulkBook
		fish, packed api.Span
		counts       [3]api.Span
	}{
		{plain(lot(just(0), 3, none, none)), to(9, 12), to(9, 12), [3]api.Span{just(3), to(1, 2), just(2)}}, {plain(lot(just(0), none, 3, none)), to(19, 27), to(19, 27), [3]api.Span{to(5, 7), just(3), to(4, 5)}}, {plain(lot(just(0), none, none, 3)), to(13, 18), to(13, 18), [3]api.Span{to(4, 5), just(2), just(3)}},
		{plain(lot(just(0), 3, 1, 2)), just(9), just(9), [3]api.Span{just(3), just(1), just(2)}}, {plain(lot(just(0), 0, none, none)), just(0), just(0), [3]api.Span{}}, {plain(lot(just(0), none, 0, none)), just(0), just(0), [3]api.Span{}},
		// a count can be wrong by so many, on either side
		{with(plain(lot(just(0), 3, none, none)), wrongBy(0, 1)), to(5, 16), to(5, 16), [3]api.Span{to(2, 4), to(1, 2), to(1, 3)}}, {with(plain(lot(just(0), none, 3, none)), wrongBy(1, 2)), to(1, 45), to(1, 45), [3]api.Span{to(1, 12), to(1, 5), to(1, 8)}}, {with(plain(lot(just(0), none, none, 3)), wrongBy(2, 9)), to(0, 72), to(0, 72), [3]api.Span{to(0, 18), to(0, 8), to(0, 12)}},
		{with(plain(lot(just(0), 3, 2, none)), wrongBy(2, 9)), to(10, 12), to(10, 12), [3]api.Span{just(3), just(2), just(2)}},
		// only hogsheads are filled with what is packed, and no more is spoiled than there is
		{plain(lot(just(2), 3, none, none)), to(9, 12), to(7, 10), [3]api.Span{just(3), to(1, 2), just(2)}}, {plain(lot(to(2, 4), none, none, 1)), to(3, 10), to(1, 6), [3]api.Span{to(1, 3), to(1, 2), just(1)}}, {plain(lot(to(3, 5), none, none, 0)), to(3, 5), just(0), [3]api.Span{to(1, 2), just(1), just(0)}},
		{plain(lot(to(3, 8), 1, none, none)), to(3, 4), to(0, 1), [3]api.Span{just(1), just(1), to(0, 1)}}, {plain(lot(just(4), 1, none, none)), just(4), just(0), [3]api.Span{just(1), just(1), just(0)}}, {plain(lot(to(0, 2), 0, none, none)), just(0), just(0), [3]api.Span{}}, {plain(lot(to(1, 5), 3, none, 2)), to(9, 12), to(7, 11), [3]api.Span{just(3), to(1, 2), just(2)}},
		// of each number of fish another waste can be the one
		{plain(lot(to(0, 5), 3, none, 1)), to(9, 11), to(4, 6), [3]api.Span{just(3), to(1, 2), just(1)}},
		// as many as there can be at all
		{plain(lot(just(0), none, none, none)), to(0, 400), to(0, 400), [3]api.Span{to(0, 100), to(0, 45), to(0, 67)}}, {plain(lot(to(15, 20), none, none, none)), to(15, 400), to(0, 385), [3]api.Span{to(4, 100), to(2, 45), to(0, 65)}}, {with(plain(lot(just(20), 40, none, none)), few, wrongBy(0, 9)), to(271, 400), to(251, 380), [3]api.Span{to(31, 45), to(31, 45), to(28, 43)}}, {with(plain(lot(just(0), none, none, 40)), few), to(352, 360), to(352, 360), [3]api.Span{just(40), just(40), just(40)}},
		// what measures hold is known only between bounds
		{with(plain(lot(just(0), 3, none, none)), holds(0, 3, 4)), to(7, 12), to(7, 12), [3]api.Span{just(3), to(1, 2), just(2)}}, {with(plain(lot(just(0), none, none, 3)), holds(2, 5, 8)), to(11, 24), to(11, 24), [3]api.Span{to(3, 6), to(2, 3), just(3)}}, {with(plain(lot(just(0), 3, none, none)), holds(2, 1, 4)), to(9, 12), to(9, 12), [3]api.Span{just(3), to(1, 2), to(3, 12)}},
		// what the rows leave of it
		{with(plain(lot(just(0), 4, 1, none)), holds(0, 2, 5)), to(7, 8), to(7, 8), [3]api.Span{just(4), just(1), just(2)}},
	} {
		if s, e := bulk.Fish(x.b, 0); s != x.fish || e != api.OK {
			t.Errorf("Fish %d: %v, %d", i, s, e)
		}
		if s, e := bulk.Packed(x.b, 0); s != x.packed || e != api.OK {
			t.Errorf("Packed %d: %v, %d", i, s, e)
		}
		for kind := range 3 {
			if s, e := bulk.Count(x.b, 0, kind); s != x.counts[kind] || e != api.OK {
				t.Errorf("Count %d of %d: %v, %d", kind, i, s, e)
			}
		}
		// with one lot, all fish are those of it
		if s, e := bulk.Total(x.b); s != x.fish || e != api.OK {
			t.Errorf("Total %d: %v, %d", i, s, e)
		}
		if s, e := bulk.Casks(x.b); s != x.counts[2] || e != api.OK {
			t.Errorf("Casks %d: %v, %d", i, s, e)
		}
	}
}

// TestExamples is of P5.2 to P5.4: the chapter's examples, and those of DOC.md, which are the lot 0 alone.
func TestExamples(t *testing.T) {
	alone := book(lots(lot(to(1, 3), 10, none, 6)))
	counted := book(lots(lot(to(1, 3), 10, 4, 6)))
	for i, x := range []struct {
		b    api.BulkBook
		ask  func(b api.BulkBook) (api.Span, api.Errno)
		want api.Span
	}{
		{book(), holdsOf(0), to(3, 4)}, {book(), holdsOf(1), to(8, 9)}, {book(), holdsOf(2), to(5, 6)}, {rowed(), holdsOf(0), just(4)}, {rowed(), holdsOf(1), just(9)}, {rowed(), holdsOf(2), just(6)},
		{book(), fishOf(0), to(27, 36)}, {book(), fishOf(1), to(56, 74)}, {rowed(), fishOf(0), to(33, 36)},
		{book(), packedOf(0), to(26, 35)}, {book(), packedOf(1), to(56, 72)},
		{book(), countOf(0, 0), to(9, 11)}, {book(), countOf(0, 1), just(4)}, {book(), countOf(0, 2), just(6)}, {book(), countOf(1, 1), to(7, 9)},
		{book(), bulk.Total, to(83, 110)}, {book(), bulk.Casks, just(18)}, {rowed(), bulk.Total, to(106, 110)}, {rowed(), bulk.Casks, just(18)},
		{alone, fishOf(0), to(27, 39)}, {counted, fishOf(0), to(27, 36)},
		// without lots nothing is known of measures, and there are no fish
		{plain(), bulk.Total, just(0)}, {plain(), bulk.Casks, just(0)}, {book(lots()), holdsOf(0), to(3, 4)}, {book(lots(), holds(2, 1, 4)), holdsOf(2), to(1, 4)},
		// what lots hold together, each at both ends by the same measures
		{plain(lot(just(0), 3, none, none), lot(just(1), none, none, 2)), bulk.Total, to(17, 25)}, {plain(lot(just(0), 3, none, none), lot(just(1), none, none, 2)), bulk.Casks, just(4)},
		{plain(five()[:4]...), bulk.Total, to(0, 1600)}, {plain(five()[:4]...), bulk.Casks, to(0, 268)}, {with(plain(slices.Repeat([]api.BulkLot{lot(just(0), none, none, 40)}, 4)...), holds(2, 9, 9)), bulk.Total, to(1408, 1440)},
		{with(plain(lot(just(0), 3, none, none), lot(just(0), 3, none, none)), holds(0, 3, 4)), bulk.Total, to(14, 24)},
		{with(plain(lot(just(0), 4, none, none), lot(just(0), 4, 1, none)), holds(0, 2, 5)), bulk.Total, to(14, 16)},
		// a lot tells what measures hold, and so of another one
		{with(plain(lot(just(0), 4, 1, none), lot(just(0), 10, none, none)), holds(0, 2, 5)), holdsOf(0), just(2)}, {with(plain(lot(just(0), 4, 1, none), lot(just(0), 10, none, none)), holds(0, 2, 5)), fishOf(1), to(19, 20)},
	} {
		if s, e := x.ask(x.b); s != x.want || e != api.OK {
			t.Errorf("the example %d: %v, %d, not %v", i, s, e, x.want)
		}
	}
}

func holdsOf(kind int) func(b api.BulkBook) (api.Span, api.Errno) {
	return func(b api.BulkBook) (api.Span, api.Errno) { return bulk.Holds(b, kind) }
}

func fishOf(lot int) func(b api.BulkBook) (api.Span, api.Errno) {
	return func(b api.BulkBook) (api.Span, api.Errno) { return bulk.Fish(b, lot) }
}

func packedOf(lot int) func(b api.BulkBook) (api.Span, api.Errno) {
	return func(b api.BulkBook) (api.Span, api.Errno) { return bulk.Packed(b, lot) }
}

func countOf(lot, kind int) func(b api.BulkBook) (api.Span, api.Errno) {
	return func(b api.BulkBook) (api.Span, api.Errno) { return bulk.Count(b, lot, kind) }
}

// TestWeigh is of P5.5.
func TestWeigh(t *testing.T) {
	// the chapter's of bonds
	hogsheads := with(plain(lot(just(0), none, none, 6), lot(to(0, 2), 9, none, none)), holds(2, 5, 6))
	for i, x := range []struct {
		b    api.BulkBook
		want int
		e    api.Errno
	}{
		{book(), 0, api.OK}, {hogsheads, 2, api.OK}, {with(plain(lot(just(0), none, 5, none)), holds(1, 6, 8)), 1, api.OK}, {with(plain(lot(just(0), 5, none, none)), holds(0, 2, 3)), 0, api.OK},
		// nothing is to be known
		{plain(), 0, api.ErrNone}, {book(lots()), 0, api.ErrNone}, {plain(lot(just(0), 3, 1, 2)), 0, api.ErrNone}, {with(plain(lot(just(0), 0, none, none)), holds(0, 2, 5)), 0, api.ErrNone},
		// no kind helps, or several do as much
		{plain(lot(just(0), 3, none, none)), 0, api.OK}, {with(plain(lot(just(0), 3, none, none)), holds(1, 6, 9), holds(2, 6, 9)), 0, api.OK}, {with(plain(lot(just(0), none, 5, none), lot(just(0), none, none, 5)), holds(1, 5, 6), holds(2, 5, 6)), 1, api.OK},
		// at the worst, the other kind can be any that it was before
		{with(plain(lot(just(0), none, 6, none), lot(just(0), none, none, 6)), holds(1, 6, 9), holds(2, 5, 6)), 1, api.OK}, {with(plain(lot(just(0), none, 6, none), lot(just(0), none, none, 6)), holds(1, 8, 9), holds(2, 3, 6)), 2, api.OK},
		{torn(), 0, api.ErrBulkFalse},
	} {
		if n, e := bulk.Weigh(x.b); n != x.want || e != x.e {
			t.Errorf("Weigh %d: %d, %d", i, n, e)
		}
	}
}

// TestWrong is of P5.1 and P5.6: Wrong, and Right, which is so just if it is empty.
func TestWrong(t *testing.T) {
	whole := lot(just(0), 3, 1, 2) // 9 hundreds
	for i, x := range []struct {
		b    api.BulkBook
		want []int
	}{
		{book(), nil}, {rowed(), nil}, {torn(), []int{3}}, {plain(), nil}, {plain(five()[:4]...), nil}, {plain(whole), nil},
		// which of three is false
		{plain(lot(just(0), 2, 1, 2)), nil}, {plain(lot(just(0), 4, 1, 2)), []int{0}}, {plain(lot(just(0), 3, 3, 2)), []int{1}}, {plain(lot(just(0), 3, 1, 3)), []int{2}},
		// the first one of several, the fewest before the first
		{plain(lot(just(0), 3, 4, none)), []int{0}}, {plain(lot(just(0), none, 4, 2)), []int{1}}, {plain(lot(just(0), 3, none, 7)), []int{0}}, {plain(lot(just(0), 3, 4, 9)), []int{0, 1}}, {plain(lot(just(0), 1, 3, 5)), []int{0}}, {plain(whole, lot(just(0), 1, 3, 5)), []int{3}}, {plain(lot(just(0), 3, 4, 9), whole, lot(just(0), 3, none, 7)), []int{0, 1, 6}},
		// an Error makes up for it
		{with(plain(lot(just(0), 4, 1, 2)), wrongBy(0, 1)), nil}, {with(plain(lot(just(0), 5, 1, 2)), wrongBy(0, 1)), []int{0}}, {with(plain(lot(just(0), 5, 1, 2)), wrongBy(0, 2)), nil}, {with(plain(lot(just(0), 3, 1, 9)), wrongBy(2, 7)), nil}, {with(plain(lot(just(0), 3, 1, 9)), wrongBy(2, 6)), []int{2}}, {with(plain(lot(just(0), 3, 3, 2)), wrongBy(1, 1)), nil},
		// more is spoiled than there is
		{plain(lot(just(5), 1, none, none)), []int{0}}, {plain(lot(just(4), 1, none, none)), nil}, {plain(lot(just(10), none, 1, none)), []int{1}}, {plain(lot(just(20), none, none, 0)), nil},
		// more is counted than there can be
		{with(plain(lot(just(0), none, none, 40)), holds(2, 9, 9)), nil}, {with(plain(lot(just(0), none, 40, 40)), holds(2, 9, 9)), nil}, {with(plain(lot(just(20), none, 40, 40)), holds(2, 9, 9)), []int{1}}, {with(plain(lot(just(0), 40, none, none)), wrongBy(0, 9)), nil},
		// measures hold the same in all lots: 4 by the lot 0, 5 by the other ones
		{with(plain(lot(just(0), 3, 1, none), lot(just(0), 4, 3, none), lot(just(0), 1, 1, none)), holds(0, 4, 5)), []int{0}}, {with(plain(lot(just(0), 3, 1, none), lot(just(0), 3, 1, none), lot(just(0), 4, 3, none)), holds(0, 4, 5)), []int{6}}, {with(plain(lot(just(0), 3, 1, none), lot(just(0), 4, 3, none)), holds(0, 5, 5)), []int{0}},
		// hogsheads alone are always right
		{with(plain(slices.Repeat([]api.BulkLot{lot(just(20), 0, 0, 40)}, 4)...), holds(2, 9, 9)), []int{0, 1, 3, 4, 6, 7, 9, 10}},
	} {
		if l, e := bulk.Wrong(x.b); !slices.Equal(l, x.want) || e != api.OK {
			t.Errorf("Wrong %d: %v, %d, not %v", i, l, e, x.want)
		}
		if is, e := bulk.Right(x.b); is != (len(x.want) == 0) || e != api.OK {
			t.Errorf("Right %d: %v, %d", i, is, e)
		}
	}
}
