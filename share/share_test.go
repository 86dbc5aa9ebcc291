package share_test

import (
	"math"
	"slices"
	"testing"

	"huer/api"
	"huer/share"
)

// sixty is a book with as many shares as there can be.
func sixty() api.ShareBook {
	return book(rates(9, 1, 1), holders(owner(5, 5, 5), owner(0, 0, 5)), drawn(1))
}

// TestCheckValid is of P8.1: each limit, and what it includes.
func TestCheckValid(t *testing.T) {
	for i, b := range []api.ShareBook{
		book(), other(), torn(), sixty(), men(1), men(0, 0, 0, 0, 0, 1), men(5, 5, 5, 5, 5, 5),
		book(rates(0, 0, 1)), book(rates(9, 0, 0)), book(rates(9, 9, 9)), book(rates(0, 9, 0)),
		book(nth(0, owner(5, 5, 5))), book(nth(0, owner(0, 0, 0))),
		book(money(0, 0)), book(money(0, 20)), book(money(9979, 9999)), book(money(9999, 9999)),
		book(seed(0, 0)), book(seed(0, 50)), book(seed(9949, 9999)), book(seed(9999, 9999)),
		book(drawn()), book(drawn(none)), book(drawn(0, 1, 2, 0, 1, 2)), book(nth(0, owner(3, 0, 1)), drawn(0, 0, 0, 0, 0, 0, 0, 0)), men(1, 0), with(men(1, 0), drawn(1)), with(men(1), drawn(none)),
	} {
		if e := share.Check(b); e != api.OK {
			t.Errorf("Check of the valid book %d: %d", i, e)
		}
	}
}

// wrongBooks are books that are not valid, each by one thing.
func wrongBooks() []api.ShareBook {
	return []api.ShareBook{
		{}, book(rates(10, 1, 1)), book(rates(2, 10, 1)), book(rates(2, 1, 10)), book(rates(-1, 1, 1)), book(rates(2, -1, 1)), book(rates(2, 1, -1)),
		book(holders()), book(holders(slices.Repeat([]api.ShareHolder{owner(1, 1, 1)}, 7)...)),
		book(nth(0, owner(6, 0, 0))), book(nth(1, owner(0, 6, 0))), book(nth(2, owner(0, 0, 6))), book(nth(0, owner(-1, 0, 1))), book(nth(1, owner(0, -1, 1))), book(nth(2, owner(0, 0, -1))),
		// no shares, and 61
		book(rates(0, 0, 0), drawn()), with(men(0, 0), drawn()), with(men(0), drawn(none)), with(sixty(), nth(1, owner(0, 1, 5))), book(rates(9, 9, 9), nth(0, owner(4, 0, 0)), nth(1, owner(0, 2, 0))),
		book(money(-1, 5)), book(money(0, 21)), book(money(9990, 10000)), book(money(10000, 10000)), book(money(5, 4)), book(money(-1, -1)), book(money(math.MinInt, math.MaxInt)), book(money(math.MaxInt, math.MinInt)),
		book(seed(-1, 5)), book(seed(0, 51)), book(seed(9990, 10000)), book(seed(10000, 10000)), book(seed(5, 4)), book(seed(-1, -1)), book(seed(math.MinInt, math.MaxInt)), book(seed(math.MaxInt, math.MinInt)),
		book(drawn(3)), book(drawn(-2)), book(drawn(0, none, 3)), book(drawn(math.MinInt)), book(drawn(none, none, none, none, none, none, none)), book(nth(0, owner(3, 0, 1)), drawn(0, 0, 0, 0, 0, 0, 0, 0, 0)), with(men(1), drawn(0, 0)), with(men(1, 0), drawn(2)),
	}
}

// TestCheckWrong is of P8.1: all functions return the error of a wrong book first, whatever is asked.
func TestCheckWrong(t *testing.T) {
	for i, b := range wrongBooks() {
		for _, asked := range []struct {
			seed, holder int
			pays         []int
		}{{0, 0, []int{50, 33, 17}}, {9999, 2, make([]int, len(b.Holders))}, {-1, -1, nil}, {10000, 7, []int{-1}}} {
			for f, e := range errorsOf(results(b, asked.seed, asked.holder, asked.pays)) {
				if e != api.ErrShare {
					t.Errorf("the wrong book %d, the function %d, asked %v: %d", i, f, asked, e)
				}
			}
		}
	}
}

// TestAsked is of P8.2 to P8.7: the error of a wrong question, before that of a book that cannot be true, or without an answer.
func TestAsked(t *testing.T) {
	const ok, ask, not, no = api.OK, api.ErrShareAsk, api.ErrShareFalse, api.ErrNone
	fine := []int{50, 33, 17}
	for i, x := range []struct {
		b            api.ShareBook
		seed, holder int
		pays         []int
		want         []api.Errno
	}{
		{book(), 0, 0, fine, []api.Errno{ok, ok, ok, ok, ok, ok, ok, ok, ok}}, {book(), 9999, 2, []int{0, 0, 0}, []api.Errno{ok, ok, ok, ok, ok, ok, ok, ok, ok}}, {book(), 9, 1, []int{math.MaxInt, math.MaxInt, math.MaxInt}, []api.Errno{ok, ok, ok, ok, ok, ok, ok, ok, ok}},
		{book(), -1, 0, fine, []api.Errno{ok, ok, ask, ok, ok, ok, ok, ok, ok}}, {book(), 10000, 0, fine, []api.Errno{ok, ok, ask, ok, ok, ok, ok, ok, ok}},
		{book(), 0, -1, fine, []api.Errno{ok, ok, ok, ok, ok, ask, ok, ok, ok}}, {book(), 0, 3, fine, []api.Errno{ok, ok, ok, ok, ok, ask, ok, ok, ok}},
		{book(), 0, 0, nil, []api.Errno{ok, ok, ok, ok, ok, ok, ask, ok, ok}}, {book(), 0, 0, []int{50, 33}, []api.Errno{ok, ok, ok, ok, ok, ok, ask, ok, ok}}, {book(), 0, 0, []int{50, 33, 17, 0}, []api.Errno{ok, ok, ok, ok, ok, ok, ask, ok, ok}}, {book(), 0, 0, []int{50, 51, -1}, []api.Errno{ok, ok, ok, ok, ok, ok, ask, ok, ok}}, {book(), 0, 0, []int{-1, 51, 50}, []api.Errno{ok, ok, ok, ok, ok, ok, ask, ok, ok}}, {book(), 0, 0, make([]int, 100), []api.Errno{ok, ok, ok, ok, ok, ok, ask, ok, ok}},
		{torn(), 0, 0, fine, []api.Errno{ok, ok, ok, ok, ok, not, not, not, ok}}, {torn(), -1, 3, []int{1}, []api.Errno{ok, ok, ask, ok, ok, ask, ask, not, ok}}, {torn(), 10000, -1, []int{0, 0, -1}, []api.Errno{ok, ok, ask, ok, ok, ask, ask, not, ok}},
		// one number alone
		{book(seed(7, 7)), 0, 0, fine, []api.Errno{ok, ok, ok, ok, ok, ok, ok, no, ok}}, {book(drawn(0)), 0, 0, fine, []api.Errno{ok, ok, ok, ok, ok, ok, ok, no, ok}}, {book(seed(8, 8)), 0, 0, fine, []api.Errno{ok, ok, ok, ok, ok, not, not, not, ok}},
	} {
		if list := errorsOf(results(x.b, x.seed, x.holder, x.pays)); !slices.Equal(list, x.want) {
			t.Errorf("the errors %d: %v, not %v", i, list, x.want)
		}
	}
}

// TestExamples is of P8.1 to P8.7: the chapter's examples, and that of DOC.md on 100 pence of 6 shares.
func TestExamples(t *testing.T) {
	checkShares(t, []sharesOf{{book(), []int{3, 2, 1}}})
	checkOrder(t, []orderOf{{book(), 7, []int{2, 1, 0, 0, 1, 0}}, {book(), 8, []int{0, 2, 0, 0, 1, 1}}, {book(), 9, []int{2, 1, 0, 1, 0, 0}}})
	checkNotes(t, []notesOf{{book(), []int{7, 9}, 3, nil}, {other(), []int{7, 9}, 3, nil}, {torn(), nil, -1, []int{0}}})
	checkPays(t, []paysOf{
		{book(), []api.Span{to(49, 50), to(33, 34), just(17)}},
		{book(money(100, 100), seed(8, 8), drawn()), []api.Span{just(3*16 + 3), just(2 * 16), just(16 + 1)}},
	})
	checkCan(t, []canOf{{book(), []int{50, 33, 17}, true}, {book(), []int{49, 34, 17}, true}, {book(), []int{50, 34, 17}, true}, {book(), []int{49, 33, 18}, false}})
}

// sharesOf is how many shares all holders of a book have.
type sharesOf struct {
	b    api.ShareBook
	want []int
}

func checkShares(t *testing.T, all []sharesOf) {
	t.Helper()
	for i, x := range all {
		if l, e := share.Shares(x.b); !slices.Equal(l, x.want) || e != api.OK {
			t.Errorf("Shares %d: %v, %d, not %v", i, l, e, x.want)
		}
	}
}

// orderOf is who wins the draws of a drawing.
type orderOf struct {
	b    api.ShareBook
	seed int
	want []int
}

func checkOrder(t *testing.T, all []orderOf) {
	t.Helper()
	for i, x := range all {
		if l, e := share.Order(x.b, x.seed); !slices.Equal(l, x.want) || e != api.OK {
			t.Errorf("Order %d: %v, %d, not %v", i, l, e, x.want)
		}
	}
}

// notesOf is what is told of the notes of a book. (As the draw to ask for -1 stands for ErrNone, or for ErrShareFalse if there are no numbers.)
type notesOf struct {
	b     api.ShareBook
	seeds []int
	ask   int
	wrong []int
}

func checkNotes(t *testing.T, all []notesOf) {
	t.Helper()
	for i, x := range all {
		right, ask, f := len(x.seeds) > 0, x.ask, api.OK
		if ask < 0 {
			ask, f = 0, api.ErrNone
		}
		if !right {
			f = api.ErrShareFalse
		}
		if is, e := share.Right(x.b); is != right || e != api.OK {
			t.Errorf("Right %d: %v, %d", i, is, e)
		}
		if l, e := share.Seeds(x.b); !slices.Equal(l, x.seeds) || e != api.OK {
			t.Errorf("Seeds %d: %v, %d, not %v", i, l, e, x.seeds)
		}
		if n, e := share.Ask(x.b); n != ask || e != f {
			t.Errorf("Ask %d: %d, %d, not %d, %d", i, n, e, ask, f)
		}
		if l, e := share.Wrong(x.b); !slices.Equal(l, x.wrong) || e != api.OK {
			t.Errorf("Wrong %d: %v, %d, not %v", i, l, e, x.wrong)
		}
	}
}

// paysOf is what all holders of a book are paid.
type paysOf struct {
	b    api.ShareBook
	want []api.Span
}

func checkPays(t *testing.T, all []paysOf) {
	t.Helper()
	for i, x := range all {
		for holder, want := range x.want {
			if s, e := share.Pays(x.b, holder); s != want || e != api.OK {
				t.Errorf("Pays %d of %d: %v, %d, not %v", i, holder, s, e, want)
			}
		}
	}
}

// canOf is whether all holders of a book can be paid so.
type canOf struct {
	b    api.ShareBook
	pays []int
	want bool
}

func checkCan(t *testing.T, all []canOf) {
	t.Helper()
	for i, x := range all {
		if is, e := share.Can(x.b, x.pays); is != x.want || e != api.OK {
			t.Errorf("Can %d: %v, %d", i, is, e)
		}
	}
}

// TestShares is of P8.1.
func TestShares(t *testing.T) {
	checkShares(t, []sharesOf{
		{sixty(), []int{55, 5}}, {torn(), []int{3, 2, 1}}, {men(1), []int{1}}, {men(0, 0, 0, 0, 0, 1), []int{0, 0, 0, 0, 0, 1}}, {men(5, 0, 4), []int{5, 0, 4}},
		// each kind by its own rate
		{book(rates(7, 0, 0)), []int{7, 0, 0}}, {book(rates(0, 7, 0)), []int{0, 7, 0}}, {book(rates(0, 0, 7)), []int{7, 7, 7}}, {book(rates(1, 3, 9), holders(owner(2, 1, 0), owner(0, 2, 1), owner(1, 0, 2))), []int{5, 15, 19}}, {book(rates(0, 9, 9), holders(owner(5, 0, 0), owner(0, 1, 0)), drawn()), []int{0, 9}},
	})
}

// TestOrder is of P8.2.
func TestOrder(t *testing.T) {
	checkOrder(t, []orderOf{
		// whether the number is in Seed or not, and whatever was noted
		{book(seed(8, 8)), 7, []int{2, 1, 0, 0, 1, 0}}, {torn(), 8, []int{0, 2, 0, 0, 1, 1}}, {torn(), 9, []int{2, 1, 0, 1, 0, 0}},
		// one share, and one holder
		{men(1), 0, []int{0}}, {men(1), 9999, []int{0}}, {men(5), 1234, []int{0, 0, 0, 0, 0}},
		// the first and the last number
		{men(1, 1), 0, []int{0, 1}}, {men(1, 1), 1, []int{1, 0}}, {men(1, 1), 9998, []int{1, 0}}, {men(1, 1), 9999, []int{0, 1}},
		// holders without shares
		{men(0, 0, 1), 17, []int{2}}, {men(0, 1, 0, 1), 0, []int{1, 3}}, {men(0, 1, 0, 1), 1, []int{3, 1}}, {men(2, 1, 0, 1), 0, []int{1, 3, 0, 0}},
		// by 0: the numbers 74, 5624, 28652, 51790, 17641, 12409, 13231, 9344
		{men(1, 1, 1), 0, []int{2, 0, 1}}, {men(1, 2, 5), 0, []int{1, 2, 2, 0, 2, 2, 2, 1}}, {men(1, 2, 5), 11, []int{2, 1, 2, 2, 0, 2, 2, 1}},
	})
	for i, x := range []struct {
		b    api.ShareBook
		seed int
	}{{sixty(), 0}, {sixty(), 9999}, {men(5, 5, 5, 5, 5, 5), 4711}, {book(rates(9, 9, 9), drawn()), 31}} {
		if l, e := share.Order(x.b, x.seed); !slices.Equal(l, slowOrder(x.b, x.seed)) || e != api.OK {
			t.Errorf("Order of the long row %d: %v, %d", i, l, e)
		}
	}
}

// TestNotes is of P8.3, P8.6 and P8.7.
func TestNotes(t *testing.T) {
	// four holders with a share each: by 0 to 9 they win 2301 1320 0321 3201 2301 1320 0321 3201 2310 1320
	four := men(1, 1, 1, 1)
	checkNotes(t, []notesOf{
		// nothing was noted
		{book(drawn()), []int{7, 8, 9}, 0, nil}, {book(drawn(none, none)), []int{7, 8, 9}, 0, nil}, {men(1, 1), []int{0, 1, 2, 3}, 0, nil}, {with(men(1, 1), seed(2, 2)), []int{2}, -1, nil}, {with(four, seed(0, 9)), []int{0, 1, 2, 3, 4, 5, 6, 7, 8, 9}, 0, nil},
		// a note of any draw
		{with(men(1, 1), drawn(1)), []int{1, 3}, 0, nil}, {with(men(1, 1), drawn(none, 1)), []int{0, 2}, 0, nil}, {book(drawn(0)), []int{8}, -1, nil}, {book(drawn(2, 1, 0, 0)), []int{7}, -1, nil}, {book(drawn(none, none, none, none, 1, 1)), []int{8}, -1, nil}, {book(drawn(none, none, none, none, none, 0)), []int{7, 9}, 3, nil}, {with(four, seed(0, 9), drawn(none, 3)), []int{0, 1, 2, 4, 5, 6, 8, 9}, 0, nil}, {with(four, seed(0, 9), drawn(2, none, 0)), []int{0, 4}, 0, nil}, {with(four, seed(0, 9), drawn(2, 3)), []int{0, 4, 8}, 2, nil}, {with(four, seed(0, 9), drawn(2, none, 1)), []int{8}, -1, nil},
		// both ends of Seed are in it
		{with(four, seed(8, 9), drawn(2)), []int{8}, -1, nil}, {with(four, seed(0, 8), drawn(2)), []int{0, 4, 8}, 2, nil}, {with(four, seed(0, 7), drawn(2)), []int{0, 4}, 0, nil}, {with(four, seed(1, 8), drawn(2)), []int{4, 8}, 2, nil},
		// who won the draws does not tell more
		{with(men(5), seed(0, 50)), numbers(0, 50), 0, nil}, {with(men(0, 5, 0), seed(3, 5), drawn(1, 1)), []int{3, 4, 5}, 0, nil}, {with(men(1), seed(9949, 9999), drawn(0)), numbers(9949, 9999), 0, nil},
		// who has no share, or no more than were noted before, wins no draw
		{with(men(0, 5, 0), drawn(1, 0)), nil, -1, []int{1}}, {with(men(2, 0), drawn(1, 1)), nil, -1, []int{0, 1}}, {with(men(1, 1), drawn(0, 0)), nil, -1, []int{0}}, {with(men(1, 1), seed(2, 2), drawn(0, 0)), nil, -1, []int{1}}, {with(men(1, 1), seed(1, 1), drawn(0, 1)), nil, -1, []int{0, 1}},
		// the fewest notes, and of as many the first ones; they are false by one and the same number
		{book(drawn(1, 1, 1)), nil, -1, []int{0, 2}}, {book(drawn(none, 0, 2)), nil, -1, []int{1, 2}}, {book(drawn(2, 1, 2, 0)), nil, -1, []int{2}}, {book(drawn(2, 1, 0, 2)), nil, -1, []int{3}}, {book(drawn(0, 1, 0, 0, 1, 1)), nil, -1, []int{1}}, {book(drawn(2, 2, 0, 0, 1, 1)), nil, -1, []int{0}}, {book(drawn(2, 1, 0, 0, 0, 1)), nil, -1, []int{3, 5}}, {book(drawn(2, 2, 2, 2, 2, 2)), nil, -1, []int{0, 2, 3, 4, 5}}, {book(drawn(1, 0, 1, 2, 2, 2)), nil, -1, numbers(0, 5)},
		{with(four, seed(0, 1), drawn(2, 0, 2, 1)), nil, -1, []int{1, 2}}, {with(four, seed(0, 2), drawn(1, 3, 2, 1)), nil, -1, []int{0}}, {with(four, seed(2, 3), drawn(3, 3, 0, 1)), nil, -1, []int{1}},
	})
}

// numbers are all from one to another one.
func numbers(from, to int) []int {
	var list []int
	for number := from; number <= to; number++ {
		list = append(list, number)
	}
	return list
}

// TestAskFor is of P8.6: of all draws, noted or not, and beyond those that can be noted.
func TestAskFor(t *testing.T) {
	for i, x := range []struct {
		b    api.ShareBook
		want int
	}{
		// four holders with a share each, as above
		{with(men(1, 1, 1, 1), seed(0, 6)), 0}, {with(men(1, 1, 1, 1), seed(0, 8), drawn(2)), 2}, {with(men(1, 1, 1, 1), seed(1, 5), drawn(none, 3)), 0},
		// in book they win by 2 to 9: 020110 210001 021001 211000 021001 210010 020011 210100
		{book(seed(2, 3), drawn()), 0}, {book(seed(4, 5), drawn()), 0}, {book(seed(2, 4), drawn(0)), 2}, {book(seed(2, 8), drawn(0)), 2}, {book(seed(3, 9), drawn(2)), 2}, {book(seed(7, 9), drawn(2, 1, 0)), 3}, {book(seed(3, 7), drawn(none, none, 0)), 4}, {book(seed(3, 9), drawn(none, none, none, 0, 0)), 0},
		// a draw behind those that can be noted
		{book(rates(4, 0, 1), holders(owner(5, 0, 0), owner(0, 0, 1)), seed(21, 23), drawn()), 9},
	} {
		if want := slowAsk(x.b); want != x.want {
			t.Errorf("the draw to ask for %d: %d, not %d", i, want, x.want)
		}
		if n, e := share.Ask(x.b); n != x.want || e != api.OK {
			t.Errorf("Ask %d: %d, %d, not %d", i, n, e, x.want)
		}
	}
}

// TestPays is of P8.4.
func TestPays(t *testing.T) {
	checkPays(t, []paysOf{
		// nothing is left over, one penny, and all but one
		{book(money(96, 96)), []api.Span{just(48), just(32), just(16)}}, {book(money(97, 97)), []api.Span{just(48), just(32), just(17)}}, {book(money(101, 101), seed(7, 7)), []api.Span{just(50), just(34), just(17)}}, {book(money(102, 102)), []api.Span{just(51), just(34), just(17)}},
		// less than a penny for each share, and no money
		{book(money(0, 0)), []api.Span{just(0), just(0), just(0)}}, {book(money(2, 2), drawn()), []api.Span{to(0, 1), to(0, 1), just(1)}}, {book(money(0, 5), seed(7, 7)), []api.Span{to(0, 2), to(0, 2), to(0, 1)}},
		// both ends of Money are in it
		{men(1, 1), []api.Span{to(2, 3), to(2, 3)}}, {with(men(1, 1), money(4, 6)), []api.Span{to(2, 3), to(2, 3)}}, {with(men(1, 1), money(4, 4)), []api.Span{just(2), just(2)}}, {with(men(1, 1), money(4, 5), drawn(0)), []api.Span{to(2, 3), just(2)}}, {with(men(1), money(9979, 9999)), []api.Span{to(9979, 9999)}}, {with(men(1), money(9999, 9999)), []api.Span{just(9999)}}, {with(men(1, 1), money(9999, 9999), drawn(1)), []api.Span{just(4999), just(5000)}},
		// by those numbers alone by which all notes are right
		{book(money(100, 100), drawn(0)), []api.Span{just(51), just(32), just(17)}}, {book(money(100, 100)), []api.Span{to(49, 50), to(33, 34), just(17)}}, {book(money(100, 100), drawn(2, 1, 0, 0)), []api.Span{just(50), just(33), just(17)}},
		// holders without shares
		{with(men(1, 0, 1, 1), money(4, 4), seed(1, 1)), []api.Span{just(1), just(0), just(1), just(2)}},
	})
}

// TestCan is of P8.5.
func TestCan(t *testing.T) {
	checkCan(t, []canOf{
		// together it must be as many pence as there can be, each as it is drawn
		{book(), []int{49, 33, 17}, false}, {book(), []int{51, 32, 17}, false}, {book(), []int{0, 0, 0}, false}, {book(), []int{50, 33, 18}, false}, {book(), []int{33, 50, 17}, false}, {book(), []int{49, 34, 18}, false}, {book(), []int{51, 33, 17}, false},
		// what each can be paid cannot be paid to all
		{with(men(1, 1), money(4, 5)), []int{2, 2}, true}, {with(men(1, 1), money(4, 5)), []int{3, 2}, true}, {with(men(1, 1), money(4, 5)), []int{3, 3}, false}, {with(men(1, 1), money(4, 6)), []int{3, 3}, true},
		// by those numbers alone by which all notes are right
		{book(drawn(0)), []int{51, 32, 17}, true}, {book(drawn(0)), []int{50, 33, 17}, false}, {with(men(1, 1), drawn(1)), []int{3, 2}, false}, {with(men(1, 1), drawn(1)), []int{2, 3}, true},
		// no money, and holders without shares
		{book(money(0, 0)), []int{0, 0, 0}, true}, {book(money(0, 0)), []int{0, 0, 1}, false}, {with(men(0, 1, 0), money(7, 7)), []int{0, 7, 0}, true}, {with(men(0, 1, 0), money(7, 7)), []int{1, 6, 0}, false},
		{book(), []int{math.MaxInt, math.MaxInt, 103}, false},
	})
}
