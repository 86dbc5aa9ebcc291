package bond_test

import (
	"slices"
	"testing"

	"huer/api"
	"huer/bond"
)

// TestCheckValid is of P7.1: each limit, and what it includes.
func TestCheckValid(t *testing.T) {
	for i, b := range []api.BondBook{
		own(), early(), book(), torn(), known(nil, nil), known(nil, nil, sold(1, 0, 0)), known([]int{0, 40, 0, 40}, []int{0, 399, 0, 399}),
		own(ready(0, 0)), own(ready(399, 399)),
		own(nth(0, sold(1, 0, 0))), own(nth(0, sold(60, 399, 99))), own(nth(2, sold(1, 399, 0))), own(nth(2, sold(60, 0, 99))),
		own(bonds(slices.Repeat([]api.BondBond{sold(60, 399, 99)}, 6)...)), own(bonds(sold(1, 0, 0))),
	} {
		if e := bond.Check(b); e != api.OK {
			t.Errorf("Check of the valid book %d: %d", i, e)
		}
	}
}

// wrongBooks are books that are not valid, each by one thing.
func wrongBooks() []api.BondBook {
	return []api.BondBook{
		{}, own(holds(0, just(0))), own(holds(2, to(6, 5))), own(told(1, 0, -2)), own(told(0, 2, 41)),
		own(func(b *api.BondBook) { b.Bulk.Lots[0].Waste = to(0, 21) }), own(func(b *api.BondBook) { b.Bulk.Error[1] = 10 }), known(make([]int, 5), make([]int, 5)),
		own(ready()), own(ready(10)), own(ready(10, 20, 30)), own(ready(-1, 20)), own(ready(10, -1)), own(ready(400, 20)), own(ready(10, 400)), known(nil, []int{0}),
		own(nth(0, sold(0, 20, 5))), own(nth(1, sold(61, 20, 5))), own(nth(2, sold(-1, 20, 5))),
		own(nth(0, sold(8, -1, 5))), own(nth(1, sold(8, 400, 5))), own(nth(0, sold(8, 20, -1))), own(nth(2, sold(8, 20, 100))),
		own(bonds(slices.Repeat([]api.BondBond{sold(1, 20, 5)}, 7)...)), own(more(api.BondBond{})),
	}
}

// TestCheckWrong is of P7.1: all functions return the error of a wrong book first, whatever is asked.
func TestCheckWrong(t *testing.T) {
	for i, b := range wrongBooks() {
		for _, asked := range [][2]int{{0, 0}, {1, 399}, {-1, -1}, {6, 400}} {
			for f, e := range errorsOf(results(b, asked[0], asked[1])) {
				if e != api.ErrBond {
					t.Errorf("the wrong book %d, the function %d, asked %v: %d", i, f, asked, e)
				}
			}
		}
	}
}

// TestAsk is of P7.1 to P7.6: the error of a wrong question, before that of a book that cannot be true, or without an answer.
func TestAsk(t *testing.T) {
	const ok, ask, not, no = api.OK, api.ErrBondAsk, api.ErrBondFalse, api.ErrNone
	for i, x := range []struct {
		b           api.BondBook
		number, day int
		want        []api.Errno
	}{
		{own(), 0, 0, []api.Errno{ok, ok, ok, ok, ok, ok, ok, ok, ok}}, {own(), 2, 399, []api.Errno{ok, ok, ok, ok, ok, ok, ok, no, ok}},
		{own(), 3, 0, []api.Errno{ok, ok, ask, ok, ok, ok, ok, ask, ok}}, {own(), -1, 0, []api.Errno{ok, ok, ask, ok, ok, ok, ok, ask, ok}},
		{own(), 0, 400, []api.Errno{ok, ask, ok, ok, ok, ok, ask, ok, ok}}, {own(), 0, -1, []api.Errno{ok, ask, ok, ok, ok, ok, ask, ok, ok}},
		{book(), 0, 0, []api.Errno{ok, ok, ask, ok, ok, ok, ok, ask, ok}},
		{torn(), 0, 0, []api.Errno{ok, not, not, not, not, not, not, not, not}}, {torn(), 2, 399, []api.Errno{ok, not, not, not, not, not, not, not, not}},
		{torn(), 3, 400, []api.Errno{ok, ask, ask, not, not, not, ask, ask, not}}, {torn(), -1, -1, []api.Errno{ok, ask, ask, not, not, not, ask, ask, not}},
	} {
		if list := errorsOf(results(x.b, x.number, x.day)); !slices.Equal(list, x.want) {
			t.Errorf("the errors %d: %v, not %v", i, list, x.want)
		}
	}
}

// TestExamples is of P7.1 to P7.6: the chapter's examples, and that of DOC.md on bonds for 8 and for 5.
func TestExamples(t *testing.T) {
	for _, x := range []struct {
		day  int
		want api.Span
	}{{0, just(0)}, {9, just(0)}, {10, just(6)}, {19, just(6)}, {20, to(12, 14)}, {399, to(12, 14)}} {
		if s, e := bond.Casks(own(), x.day); s != x.want || e != api.OK {
			t.Errorf("Casks on %d: %v, %d", x.day, s, e)
		}
	}
	checkTold(t, []toldOf{
		{own(), []api.Span{just(8), just(4), to(0, 2)}, []int{0, 1}, to(1, 3), to(2, 6), []int{1}},
		{early(), []api.Span{just(8), just(0)}, []int{0}, just(3), just(12), []int{1}},
		{book(sold(8, 20, 5), sold(5, 20, 1)), []api.Span{just(8), to(4, 5)}, []int{0}, to(0, 1), to(0, 1), []int{0}},
	})
	checkSell(t, []sellOf{
		{own(), 10, 0}, {book(sold(8, 20, 5)), 10, 4}, {book(sold(8, 20, 5)), 20, 4}, {book(), 9, 0}, {book(), 10, 6}, {book(), 20, 12},
	})
	checkLater(t, []laterOf{{own(), 1, 10}, {own(), 2, -1}, {early(), 1, 10}})
}

// toldOf is what is told of a book.
type toldOf struct {
	b           api.BondBook
	gets        []api.Span
	full        []int
	short, fine api.Span
	drop        []int
}

func checkTold(t *testing.T, all []toldOf) {
	t.Helper()
	for i, x := range all {
		for number, want := range x.gets {
			if s, e := bond.Gets(x.b, number); s != want || e != api.OK {
				t.Errorf("Gets %d of %d: %v, %d, not %v", i, number, s, e, want)
			}
		}
		if l, e := bond.Full(x.b); !slices.Equal(l, x.full) || e != api.OK {
			t.Errorf("Full %d: %v, %d, not %v", i, l, e, x.full)
		}
		if s, e := bond.Short(x.b); s != x.short || e != api.OK {
			t.Errorf("Short %d: %v, %d, not %v", i, s, e, x.short)
		}
		if s, e := bond.Fines(x.b); s != x.fine || e != api.OK {
			t.Errorf("Fines %d: %v, %d, not %v", i, s, e, x.fine)
		}
		if l, e := bond.Drop(x.b); !slices.Equal(l, x.drop) || e != api.OK {
			t.Errorf("Drop %d: %v, %d, not %v", i, l, e, x.drop)
		}
	}
}

// sellOf is how many hogsheads can be sold on a day.
type sellOf struct {
	b         api.BondBook
	day, want int
}

func checkSell(t *testing.T, all []sellOf) {
	t.Helper()
	for i, x := range all {
		if n, e := bond.Sell(x.b, x.day); n != x.want || e != api.OK {
			t.Errorf("Sell %d: %d, %d, not %d", i, n, e, x.want)
		}
	}
}

// laterOf is with which day a bond gets all. (-1 stands for ErrNone.)
type laterOf struct {
	b            api.BondBook
	number, want int
}

func checkLater(t *testing.T, all []laterOf) {
	t.Helper()
	for i, x := range all {
		want, f := x.want, api.OK
		if want < 0 {
			want, f = 0, api.ErrNone
		}
		if n, e := bond.Later(x.b, x.number); n != want || e != f {
			t.Errorf("Later %d: %d, %d, not %d, %d", i, n, e, want, f)
		}
	}
}

// tied is a book in which a barrow holds 3 if a hogshead holds 5, and 4 if it holds 6, by its last lot. So the others have 12 and 13 to 15 hogsheads, or 13 to 14 and 11 to 12.
func tied(all ...api.BondBond) api.BondBook {
	return api.BondBook{
		Bulk: api.BulkBook{
			Holds: [3]api.Span{to(3, 4), just(9), to(5, 6)},
			Lots:  []api.BulkLot{lot(just(0), 20, none, none), lot(just(0), none, 8, none), lot(to(0, 5), 10, none, 6)},
		},
		Ready: []int{10, 20, 30}, Bonds: all,
	}
}

// TestCasks is of P7.1.
func TestCasks(t *testing.T) {
	for i, x := range []struct {
		b    api.BondBook
		day  int
		want api.Span
	}{
		{known(nil, nil), 0, just(0)}, {known(nil, nil), 399, just(0)}, {known([]int{0}, []int{0}), 0, just(0)},
		{known([]int{7}, []int{0}), 0, just(7)}, {known([]int{7}, []int{399}), 398, just(0)}, {known([]int{7}, []int{399}), 399, just(7)},
		{known([]int{1, 2, 4, 8}, []int{3, 1, 2, 2}), 0, just(0)}, {known([]int{1, 2, 4, 8}, []int{3, 1, 2, 2}), 1, just(2)}, {known([]int{1, 2, 4, 8}, []int{3, 1, 2, 2}), 2, just(14)}, {known([]int{1, 2, 4, 8}, []int{3, 1, 2, 2}), 3, just(15)},
		{within(2, []int{5, 1}, []int{1, 2}), 1, to(3, 7)}, {within(2, []int{5, 1}, []int{1, 2}), 2, to(3, 10)}, {within(2, []int{5, 1}, []int{1, 2}), 0, just(0)},
		// what measures hold is the same for all lots
		{tied(), 10, to(12, 14)}, {tied(), 20, to(24, 27)}, {tied(), 30, to(30, 33)},
		// bonds do not matter
		{own(bonds(sold(60, 0, 99))), 20, to(12, 14)},
	} {
		if s, e := bond.Casks(x.b, x.day); s != x.want || e != api.OK {
			t.Errorf("Casks %d: %v, %d, not %v", i, s, e, x.want)
		}
	}
}

// TestTold is of P7.2, P7.3 and P7.6.
func TestTold(t *testing.T) {
	checkTold(t, []toldOf{
		// no bonds, no lots, no hogsheads
		{book(), nil, nil, just(0), just(0), nil}, {known(nil, nil), nil, nil, just(0), just(0), nil}, {known(nil, nil, sold(2, 399, 99)), []api.Span{just(0)}, nil, just(2), just(198), []int{0}}, {known([]int{0, 0}, []int{0, 0}, sold(2, 399, 99), sold(60, 0, 0)), []api.Span{just(0), just(0)}, nil, just(62), just(198), []int{0, 1}},
		// just enough, and one too few
		{book(sold(12, 20, 1)), []api.Span{just(12)}, []int{0}, just(0), just(0), nil}, {book(sold(13, 20, 1)), []api.Span{to(12, 13)}, nil, to(0, 1), to(0, 1), []int{0}}, {book(sold(14, 20, 3)), []api.Span{to(12, 14)}, nil, to(0, 2), to(0, 6), []int{0}}, {book(sold(15, 20, 3)), []api.Span{to(12, 14)}, nil, to(1, 3), to(3, 9), []int{0}},
		// a lot is there on its own day, not before it
		{known([]int{5}, []int{7}, sold(5, 7, 1)), []api.Span{just(5)}, []int{0}, just(0), just(0), nil}, {known([]int{5}, []int{7}, sold(5, 6, 1)), []api.Span{just(0)}, nil, just(5), just(5), []int{0}},
		// bonds with early ships leave the hogsheads that are ready later to others, in whatever order they were made
		{known([]int{5, 5}, []int{1, 2}, sold(5, 2, 1), sold(5, 1, 1)), []api.Span{just(5), just(5)}, []int{0, 1}, just(0), just(0), nil}, {known([]int{5, 5}, []int{2, 1}, sold(5, 2, 1), sold(5, 1, 1)), []api.Span{just(5), just(5)}, []int{0, 1}, just(0), just(0), nil}, {known([]int{5, 5}, []int{1, 2}, sold(7, 2, 1), sold(5, 1, 2)), []api.Span{just(7), just(3)}, []int{0}, just(2), just(4), []int{0}},
		{known([]int{3, 3, 3}, []int{3, 1, 2}, sold(2, 2, 9), sold(2, 3, 9), sold(3, 1, 9), sold(3, 3, 9)), []api.Span{just(2), just(2), just(3), just(2)}, []int{0, 1, 2}, just(1), just(9), []int{0}},
		// the first bond gets all it can, even if others must pay more
		{known([]int{5}, []int{1}, sold(5, 9, 0), sold(5, 1, 99)), []api.Span{just(5), just(0)}, []int{0}, just(5), just(495), []int{0}}, {known([]int{5}, []int{1}, sold(5, 1, 99), sold(5, 9, 0)), []api.Span{just(5), just(0)}, []int{0}, just(5), just(0), []int{0}},
		// a bond for which there is nothing does not keep others from theirs
		{known([]int{5}, []int{2}, sold(5, 1, 1), sold(5, 2, 1)), []api.Span{just(0), just(5)}, []int{1}, just(5), just(5), []int{0}}, {known([]int{5, 1}, []int{2, 8}, sold(5, 1, 1), sold(2, 2, 1), sold(1, 0, 1), sold(4, 8, 1)), []api.Span{just(0), just(2), just(0), just(4)}, []int{1, 3}, just(6), just(6), []int{0, 2}},
		// bonds of the same kind are different ones
		{known([]int{5}, []int{2}, sold(3, 4, 7), sold(3, 4, 7), sold(3, 4, 7)), []api.Span{just(3), just(2), just(0)}, []int{0}, just(4), just(28), []int{0, 1}},
		// what falls short, and is paid, is not so at the same end of each bond
		{within(1, []int{3}, []int{1}, sold(2, 1, 10), sold(2, 1, 1)), []api.Span{just(2), to(0, 2)}, []int{0}, to(0, 2), to(0, 2), []int{0}}, {within(3, []int{3}, []int{1}, sold(2, 1, 10), sold(2, 1, 1)), []api.Span{to(0, 2), to(0, 2)}, nil, to(0, 4), to(0, 22), []int{0, 1}},
		// what measures hold is the same for all lots
		{tied(sold(24, 20, 1)), []api.Span{just(24)}, []int{0}, just(0), just(0), nil}, {tied(sold(29, 29, 2)), []api.Span{to(24, 27)}, nil, to(2, 5), to(4, 10), []int{0}}, {tied(sold(12, 10, 1), sold(15, 20, 1), sold(6, 30, 1)), []api.Span{just(12), to(12, 15), just(6)}, []int{0, 2}, to(0, 3), to(0, 3), []int{0}},
		// as much as there can be at all
		{known([]int{40, 40}, []int{0, 0}, slices.Repeat([]api.BondBond{sold(60, 399, 99)}, 6)...), []api.Span{just(60), just(20), just(0), just(0), just(0), just(0)}, []int{0}, just(280), just(27720), []int{0, 1, 2, 3, 4}},
	})
}

// TestDropOrder is of P7.6: the fewest bonds, and of as many the first ones.
func TestDropOrder(t *testing.T) {
	for i, x := range []struct {
		b    api.BondBook
		want []int
	}{
		// one large bond rather than two small ones
		{known([]int{6}, []int{0}, sold(3, 1, 1), sold(3, 1, 1), sold(6, 1, 1)), []int{2}}, {known([]int{6}, []int{0}, sold(6, 1, 1), sold(3, 1, 1), sold(3, 1, 1)), []int{0}}, {known([]int{6}, []int{0}, sold(3, 1, 1), sold(6, 1, 1), sold(3, 1, 1)), []int{1}},
		// the first one, though another one falls short
		{known([]int{6}, []int{0}, sold(3, 1, 1), sold(3, 1, 1), sold(3, 1, 1)), []int{0}}, {known([]int{6}, []int{0}, sold(1, 1, 1), sold(3, 1, 1), sold(4, 1, 1)), []int{1}}, {known([]int{6}, []int{0}, sold(2, 1, 1), sold(3, 1, 1), sold(3, 1, 1)), []int{0}},
		// two, of which the first ones do not do
		{known([]int{6, 6}, []int{0, 5}, sold(1, 5, 1), sold(7, 1, 1), sold(1, 5, 1), sold(9, 3, 1)), []int{1, 3}}, {known([]int{4}, []int{0}, sold(3, 1, 1), sold(1, 1, 1), sold(3, 1, 1), sold(3, 1, 1)), []int{0, 2}}, {known([]int{4}, []int{0}, sold(1, 1, 1), sold(3, 1, 1), sold(3, 1, 1), sold(3, 1, 1)), []int{1, 2}},
		// an early bond alone can be too much
		{known([]int{2, 40}, []int{5, 6}, sold(9, 6, 1), sold(1, 4, 1), sold(9, 6, 1)), []int{1}}, {known([]int{2, 40}, []int{5, 6}, sold(9, 6, 1), sold(2, 5, 1), sold(1, 5, 1)), []int{1}},
		// fines do not matter
		{known([]int{6}, []int{0}, sold(3, 1, 99), sold(3, 1, 99), sold(3, 1, 0)), []int{0}},
		// all of them, and none
		{known(nil, nil, slices.Repeat([]api.BondBond{sold(1, 1, 1)}, 6)...), []int{0, 1, 2, 3, 4, 5}}, {known([]int{6}, []int{1}, slices.Repeat([]api.BondBond{sold(1, 1, 1)}, 6)...), nil},
	} {
		if l, e := bond.Drop(x.b); !slices.Equal(l, x.want) || e != api.OK {
			t.Errorf("Drop %d: %v, %d, not %v", i, l, e, x.want)
		}
	}
}

// TestSell is of P7.4.
func TestSell(t *testing.T) {
	six := slices.Repeat([]api.BondBond{sold(2, 3, 1)}, 6)
	checkSell(t, []sellOf{
		{known(nil, nil), 0, 0}, {known([]int{0}, []int{0}), 399, 0}, {known([]int{7}, []int{399}), 398, 0}, {known([]int{7}, []int{399}), 399, 7}, {known([]int{7}, []int{0}), 0, 7},
		// 60 at most
		{known([]int{40, 20}, []int{0, 0}), 0, 60}, {known([]int{40, 21}, []int{0, 0}), 0, 60}, {known([]int{40, 19}, []int{0, 0}), 0, 59}, {known([]int{40, 40, 40, 40}, []int{0, 0, 0, 0}, sold(60, 0, 1)), 0, 60}, {known([]int{40, 40}, []int{0, 0}, sold(60, 0, 1)), 0, 20},
		// behind all others, of whatever day; a seventh one, too
		{known([]int{5, 5}, []int{1, 2}, sold(3, 1, 1)), 1, 2}, {known([]int{5, 5}, []int{1, 2}, sold(3, 1, 1)), 2, 7}, {known([]int{5, 5}, []int{1, 2}, sold(7, 2, 1)), 1, 3}, {known([]int{5, 5}, []int{1, 2}, sold(4, 2, 1)), 1, 5}, {known([]int{20}, []int{1}, six...), 3, 8}, {known([]int{20, 3}, []int{1, 4}, six...), 4, 11}, {known([]int{12}, []int{1}, six...), 399, 0},
		// as few as there can be
		{within(2, []int{5, 1}, []int{1, 2}), 2, 3}, {within(2, []int{5, 1}, []int{1, 2}), 1, 3}, {within(2, []int{5, 1}, []int{1, 2}, sold(4, 2, 1)), 2, 0}, {tied(), 20, 24}, {tied(), 30, 30}, {tied(), 10, 12}, {tied(sold(14, 20, 1)), 10, 10}, {tied(sold(14, 20, 1)), 19, 10}, {early(), 399, 4}, {own(), 20, 0},
	})
}

// TestLater is of P7.5.
func TestLater(t *testing.T) {
	checkLater(t, []laterOf{
		{own(), 0, 20}, {book(sold(13, 20, 1)), 0, -1}, {book(sold(7, 0, 1)), 0, 20}, {book(sold(6, 0, 1)), 0, 10},
		// its own day, if it gets all already, and that may be the last one
		{known([]int{5}, []int{0}, sold(5, 0, 1)), 0, 0}, {known([]int{5}, []int{3}, sold(5, 200, 1)), 0, 200}, {known([]int{5}, []int{399}, sold(5, 0, 1)), 0, 399}, {known([]int{5}, []int{399}, sold(5, 399, 1)), 0, 399}, {known([]int{5}, []int{399}, sold(6, 399, 1)), 0, -1}, {known(nil, nil, sold(1, 0, 1)), 0, -1},
		// in its place, between those before it and those behind it
		{known([]int{5, 5}, []int{1, 2}, sold(7, 2, 1), sold(4, 0, 1)), 1, -1}, {known([]int{5, 5}, []int{1, 2}, sold(7, 2, 1), sold(3, 0, 1)), 1, 1}, {known([]int{5, 5}, []int{1, 2}, sold(3, 0, 1), sold(7, 2, 1)), 0, 1}, {known([]int{5, 5}, []int{1, 2}, sold(3, 1, 1), sold(4, 0, 1)), 1, 2}, {known([]int{5, 5}, []int{1, 2}, sold(10, 0, 1), sold(1, 1, 1)), 0, 2}, {known([]int{5, 5}, []int{1, 2}, sold(10, 0, 1), sold(1, 1, 1)), 1, 1},
		// others may fall short
		{known([]int{5, 5}, []int{1, 2}, sold(60, 0, 1), sold(4, 0, 1), sold(60, 2, 1)), 1, 1},
		// surely
		{within(2, []int{5, 5}, []int{1, 2}, sold(3, 0, 1)), 0, 1}, {within(2, []int{5, 5}, []int{1, 2}, sold(4, 0, 1)), 0, 2}, {within(2, []int{5, 5}, []int{1, 2}, sold(7, 0, 1)), 0, -1}, {tied(sold(24, 0, 1)), 0, 20}, {tied(sold(25, 0, 1)), 0, 30}, {tied(sold(31, 0, 1)), 0, -1},
	})
}
