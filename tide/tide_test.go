package tide_test

import (
	"slices"
	"testing"

	"huer/api"
	"huer/tide"
)

// seven are more tides than a book can have.
func seven() []api.TideLow {
	return []api.TideLow{low(30, 1, 2), low(31, 1, 2), low(32, 1, 2), low(33, 1, 2), low(34, 1, 2), low(35, 1, 2), low(36, 1, 2)}
}

// changeTide is the book of the examples with another tide in the place of one.
func changeTide(number int, to api.TideLow) api.TideBook {
	return book(func(b *api.TideBook) { b.Tides[number] = to })
}

// TestCheckValid is of P4.1: each limit, and what it includes.
func TestCheckValid(t *testing.T) {
	for i, b := range []api.TideBook{
		{}, book(), late(), quick(), plain(),
		// the hour of the last note, and the last hour of all
		book(now(24)), plain(gale(60, 60), tides(), now(60)), plain(gale(60, 60), tides(low(60, 0, 0)), now(60)), plain(holding(just(5), note(api.SeineMend, 60, just(0))), now(60), gale(60, 60), tides()),
		book(tides()), book(tides(seven()[:6]...)), changeTide(0, low(21, 0, 12)), changeTide(0, low(29, 87, 99)), changeTide(2, low(60, 99, 99)), changeTide(2, low(31, 0, 0)),
		book(gale(21, 33)), book(gale(21, 21)), book(gale(48, 60)), book(gale(60, 60)),
		book(most(0)), book(most(6)), book(rest(0)), book(rest(60)),
	} {
		if e := tide.Check(b); e != api.OK {
			t.Errorf("Check of the valid book %d: %d", i, e)
		}
	}
}

// wrongBooks are books that are not valid, each by one thing.
func wrongBooks() []api.TideBook {
	torn := func(b *api.TideBook) { b.Seine.Notes[3].Many = just(71) }
	return []api.TideBook{
		// a seine that is not valid, or cannot be true
		book(holding(to(2, 1))), book(holding(to(0, 13))), book(holding(just(401))), book(holding(just(5), note(5, 0, just(0)))), book(torn), book(holding(just(5), note(api.SeineTuck, 0, just(6)))),
		book(now(20)), book(now(-1), holding(just(5))), plain(now(61), tides(), gale(60, 60)), plain(now(61), tides(), gale(61, 61)),
		book(tides(seven()...)), changeTide(0, low(20, 1, 2)), changeTide(1, low(24, 1, 2)), changeTide(1, low(36, 1, 2)), changeTide(2, low(29, 1, 2)), changeTide(2, low(61, 1, 2)), plain(tides(low(-1, 1, 2))),
		changeTide(0, low(24, 2, 1)), changeTide(0, low(24, -1, 1)), changeTide(1, low(30, 0, 13)), changeTide(2, low(36, 95, 100)), changeTide(2, low(36, 100, 100)),
		book(gale(20, 30)), book(gale(34, 47)), book(gale(50, 61)), book(gale(61, 61)), book(gale(35, 34)), plain(gale(-1, 0)),
		book(most(-1)), book(most(7)), book(rest(-1)), book(rest(61)),
	}
}

// TestCheckWrong is of P4.1: all functions return the error of a wrong book first, whatever the plan is.
func TestCheckWrong(t *testing.T) {
	for i, b := range wrongBooks() {
		for _, plan := range [][]int{nil, {-1}, {0}} {
			for f, e := range errorsOf(results(b, plan)) {
				if e != api.ErrTide {
					t.Errorf("the wrong book %d, the function %d, the plan %v: %d", i, f, plan, e)
				}
			}
		}
	}
}

// TestIsPlan is of P4.1 to P4.3 and P4.5: what is a plan, and the error of all functions that are asked of none.
func TestIsPlan(t *testing.T) {
	six := book(tides(seven()[:6]...), rest(0), most(6))
	for i, x := range []struct {
		b    api.TideBook
		plan []int
		want bool
	}{
		{book(), nil, true}, {book(), []int{}, true}, {book(), []int{0, 2}, true}, {book(), []int{0, 1}, false}, {quick(), []int{0, 1}, true}, {book(), []int{2, 0}, false},
		{book(), []int{0}, true}, {book(), []int{1}, true}, {book(), []int{2}, true}, {book(), []int{3}, false}, {book(), []int{-1}, false}, {book(), []int{1, 2}, false}, {quick(), []int{1, 2}, true},
		// at least so far apart, each two that follow each other
		{book(rest(12)), []int{0, 2}, true}, {book(rest(13)), []int{0, 2}, false}, {book(rest(7)), []int{0, 1}, false}, {book(rest(6), most(3)), []int{0, 1, 2}, true}, {book(rest(7), most(3)), []int{0, 1, 2}, false}, {book(rest(60)), []int{2}, true},
		// at most so many
		{quick(), []int{0, 1, 2}, false}, {book(most(0)), nil, true}, {book(most(0)), []int{0}, false}, {book(most(1)), []int{2}, true}, {book(most(1)), []int{0, 2}, false},
		// strictly increasing, though none need be apart
		{book(rest(0)), []int{0, 0}, false}, {book(rest(0)), []int{1, 0}, false}, {book(rest(0)), []int{0, 3}, false}, {book(rest(0)), []int{-1, 0}, false},
		{six, []int{0, 1, 2, 3, 4, 5}, true}, {six, []int{0, 1, 2, 3, 4, 5, 6}, false}, {six, make([]int, 100000), false}, {book(tides()), nil, true}, {book(tides()), []int{0}, false},
		// a tide that is too late can be planned, too
		{book(gale(21, 21)), []int{0, 2}, true},
	} {
		is, e := tide.IsPlan(x.b, x.plan)
		if is != x.want || e != api.OK {
			t.Errorf("IsPlan %d: %v, %d", i, is, e)
		}
		asked := api.OK
		if !x.want {
			asked = api.ErrTideAsk
		}
		want := []api.Errno{api.OK, api.OK, asked, asked, asked, asked, api.OK, asked}
		// Calm has an error of its own
		if list := errorsOf(results(x.b, x.plan))[:8]; !slices.Equal(list, want) {
			t.Errorf("the errors %d: %v, not %v", i, list, want)
		}
	}
}

// TestFates is of P4.2 and P4.3: Out, Lost, Left and Mended.
func TestFates(t *testing.T) {
	leaking := func(rate int) func(b *api.TideBook) {
		return holding(just(30), note(api.SeineBreach, 0, just(rate)))
	}
	first := tides(low(0, 5, 7), low(10, 3, 4))
	for i, x := range []struct {
		b                       api.TideBook
		plan                    []int
		out, lost, left, mended api.Span
	}{
		{book(), []int{0, 2}, to(20, 40), to(15, 35), to(0, 22), to(20, 47)}, {book(), []int{0}, to(20, 25), to(20, 35), to(0, 22), to(20, 25)}, {book(), nil, just(0), to(45, 55), to(7, 42), just(0)},
		{quick(), []int{0, 1}, to(27, 45), to(9, 18), to(0, 4), to(38, 45)}, {late(), []int{0, 2}, to(20, 40), to(15, 30), to(0, 3), to(35, 47)}, {book(), []int{2}, to(0, 22), to(23, 55), to(0, 42), to(0, 22)},
		// nothing is lost but what is left
		{plain(), []int{0, 2}, to(20, 30), to(0, 10), to(0, 10), to(20, 30)}, {plain(), nil, just(0), just(30), just(30), just(0)}, {plain(holding(just(0))), []int{0}, just(0), just(0), just(0), just(0)}, {plain(holding(to(10, 22))), []int{0}, to(10, 22), to(0, 2), to(0, 2), to(10, 22)},
		// a tide is too late at the hour of the gale, and in time an hour before
		{plain(gale(24, 24)), []int{0}, just(0), just(30), just(30), just(0)}, {plain(gale(25, 25)), []int{0}, to(20, 25), to(5, 10), to(5, 10), to(20, 25)}, {plain(gale(24, 25)), []int{0}, to(0, 25), to(5, 30), to(5, 30), to(0, 25)}, {plain(gale(0, 0), first), []int{0, 1}, just(0), just(30), just(30), just(0)},
		// at Now nothing is lost yet, neither to a tide nor to the gale
		{plain(gale(1, 1), first, leaking(9)), []int{0}, to(5, 7), to(23, 25), to(14, 16), to(5, 7)}, {plain(gale(0, 0), first, leaking(9)), []int{0}, just(0), just(30), just(30), just(0)}, {plain(gale(1, 1), leaking(9)), nil, just(0), just(30), just(21), just(0)},
		// each hour once, and no more than there is
		{plain(gale(10, 10), first, leaking(2)), []int{0, 1}, to(5, 7), to(23, 25), to(3, 5), to(5, 7)}, {plain(gale(11, 11), first, leaking(2)), []int{1}, to(3, 4), to(26, 27), to(4, 5), to(3, 4)}, {plain(gale(12, 12), first, leaking(2)), []int{0, 1}, to(8, 10), to(20, 22), just(0), to(8, 11)}, {plain(gale(60, 60), first, leaking(3)), []int{1}, just(0), just(30), just(0), to(3, 4)},
		// what a breach loses is known at Now only, whichever note told of it
		{plain(holding(just(30), note(api.SeineBreach, 0, just(2)), note(api.SeineMend, 5, just(0))), now(6), gale(8, 8), tides()), nil, just(0), just(20), just(20), just(0)}, {plain(holding(just(30), note(api.SeineBreach, 0, to(1, 2)), note(api.SeineSound, 10, to(0, 12))), now(10), gale(11, 11), tides()), nil, just(0), just(10), just(8), just(0)},
		// any number of the one span can be with any of the other one
		{plain(holding(just(30), note(api.SeineBreach, 0, to(1, 2))), now(10), gale(11, 12), tides()), nil, just(0), to(10, 20), to(6, 19), just(0)},
		{api.TideBook{}, nil, just(0), just(0), just(0), just(0)},
	} {
		if f, e := told(x.b, x.plan); f != (fates{x.out, x.lost, x.left}) || e != api.OK {
			t.Errorf("the plan %d: %v, %d", i, f, e)
		}
		if s, e := tide.Mended(x.b, x.plan); s != x.mended || e != api.OK {
			t.Errorf("Mended %d: %v, %d", i, s, e)
		}
	}
}

// TestBest is of P4.4.
func TestBest(t *testing.T) {
	three := tides(low(10, 5, 9), low(20, 5, 9), low(30, 5, 9))
	for i, x := range []struct {
		b    api.TideBook
		want []int
	}{
		{book(), []int{0}}, {late(), []int{0, 2}}, {quick(), []int{0, 1}}, {book(most(0)), nil}, {book(most(1)), []int{0}}, {book(tides()), nil}, {book(gale(24, 24)), nil}, {api.TideBook{}, nil},
		// what is lost at most decides, not what is lost at least
		{plain(most(1), tides(low(10, 5, 9), low(20, 6, 6))), []int{1}}, {plain(most(1), tides(low(10, 6, 6), low(20, 5, 9))), []int{0}}, {plain(most(1), tides(low(10, 0, 12), low(20, 1, 1))), []int{1}},
		// the fewest tides of those that lose as few
		{plain(holding(just(5)), three), []int{0}}, {plain(holding(just(6)), three), []int{0, 1}}, {plain(most(2), tides(low(10, 3, 9), low(20, 3, 9), low(30, 6, 6))), []int{0, 2}}, {plain(most(3), rest(0), tides(low(10, 3, 9), low(20, 3, 9), low(30, 6, 6)), holding(just(6))), []int{2}}, {plain(tides(low(10, 0, 0), low(20, 2, 2))), []int{1}},
		// the first one of those that are as short
		{plain(most(1), three), []int{0}}, {plain(most(2), three), []int{0, 1}}, {plain(rest(20), three), []int{0, 2}}, {plain(rest(21), three), []int{0}}, {plain(most(1), tides(low(10, 4, 4), low(20, 5, 9), low(30, 5, 5))), []int{1}},
		// no tide surely lets anything out
		{plain(tides(low(10, 0, 9), low(20, 0, 9))), nil}, {plain(holding(just(0))), nil},
		// a tide that the gale may forestall is of no use
		{plain(gale(20, 30), three), []int{0}}, {plain(gale(21, 30), three), []int{0, 1}},
	} {
		if l, e := tide.Best(x.b); !slices.Equal(l, x.want) || e != api.OK {
			t.Errorf("Best %d: %v, %d, not %v", i, l, e, x.want)
		}
	}
}

// TestSpare is of P4.5.
func TestSpare(t *testing.T) {
	three := tides(low(10, 5, 9), low(20, 5, 9), low(30, 5, 9))
	for i, x := range []struct {
		b    api.TideBook
		plan []int
		want []int
	}{
		{book(), []int{0, 2}, []int{2}}, {late(), []int{0, 2}, nil}, {book(), nil, nil}, {book(), []int{0}, nil}, {book(), []int{2}, []int{2}}, {book(gale(24, 24)), []int{0, 2}, []int{0, 2}},
		// each alone, though not all of them together
		{plain(holding(just(5)), three), []int{0, 2}, []int{0, 2}}, {plain(holding(just(6)), three), []int{0, 2}, nil}, {plain(holding(just(10)), three, most(3)), []int{0, 1, 2}, []int{0, 1, 2}}, {plain(holding(just(11)), three, most(3)), []int{0, 1, 2}, nil},
		// what is lost at most decides
		{plain(tides(low(10, 0, 9), low(20, 1, 1))), []int{0, 1}, []int{0}},
	} {
		if l, e := tide.Spare(x.b, x.plan); !slices.Equal(l, x.want) || e != api.OK {
			t.Errorf("Spare %d: %v, %d, not %v", i, l, e, x.want)
		}
	}
}

// TestCalm is of P4.6.
func TestCalm(t *testing.T) {
	leaking := func(rate api.Span) func(b *api.TideBook) {
		return holding(just(30), note(api.SeineBreach, 0, rate))
	}
	for i, x := range []struct {
		b    api.TideBook
		calm int
		e    api.Errno
	}{
		{book(), 41, api.OK}, {quick(), 38, api.OK}, {late(), 41, api.OK}, {book(most(0)), 0, api.ErrNone}, {book(most(1)), 56, api.OK}, {book(tides()), 0, api.ErrNone},
		// whether it is in Gale or not
		{book(gale(24, 24)), 41, api.OK}, {book(gale(21, 21)), 41, api.OK}, {book(gale(60, 60)), 41, api.OK},
		// from Now on
		{plain(holding(just(0))), 0, api.OK}, {plain(holding(just(0)), now(24)), 24, api.OK}, {plain(holding(just(0)), now(34), tides()), 34, api.OK}, {plain(now(24), tides(low(24, 30, 30))), 25, api.OK}, {api.TideBook{}, 0, api.OK},
		// at most nothing is left, by one plan
		{plain(holding(to(20, 25))), 37, api.OK}, {plain(holding(to(8, 20))), 25, api.OK}, {plain(holding(just(50))), 0, api.ErrNone}, {plain(holding(just(21)), tides(low(5, 20, 22), low(9, 21, 21)), most(1)), 10, api.OK},
		// the last hour
		{plain(tides(low(59, 30, 30))), 60, api.OK}, {plain(tides(low(60, 30, 30))), 0, api.ErrNone}, {plain(tides(), holding(just(60), note(api.SeineBreach, 0, just(1)))), 60, api.OK}, {plain(tides(), holding(just(61), note(api.SeineBreach, 0, just(1)))), 0, api.ErrNone},
		// what the seine loses by itself, at least
		{plain(tides(), leaking(just(3))), 10, api.OK}, {plain(tides(), leaking(just(4))), 8, api.OK}, {plain(tides(), leaking(to(1, 3))), 30, api.OK}, {plain(tides(), leaking(to(0, 9))), 0, api.ErrNone},
	} {
		if n, e := tide.Calm(x.b); n != x.calm || e != x.e {
			t.Errorf("Calm %d: %d, %d", i, n, e)
		}
	}
}
