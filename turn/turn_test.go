package turn_test

import (
	"slices"
	"testing"

	"huer/api"
	"huer/turn"
)

// TestCheckValid is of P2.1: each limit, and what it includes.
func TestCheckValid(t *testing.T) {
	for i, b := range []api.TurnBook{
		book(), late(), torn(), bare(),
		{Companies: 1, Orders: [][]int{{0}}},
		{Companies: 4, Orders: [][]int{{3}, {0}, {3}}},
		change(book(), func(b *api.TurnBook) { b.Companies = 4 }),
		change(book(), func(b *api.TurnBook) { b.Shots = slices.Repeat(b.Shots[:1], 5) }),
		change(book(), func(b *api.TurnBook) { b.Shots = nil }),
		change(book(), func(b *api.TurnBook) { b.Bounds = []api.Span{to(0, 10), to(11, 11)} }),
		change(book(), func(b *api.TurnBook) { b.Bounds = []api.Span{just(1438), just(1439)} }),
		change(book(), func(b *api.TurnBook) { b.Bounds[1] = to(1429, 1439) }),
		change(book(), func(b *api.TurnBook) { b.Bounds[1] = to(365, 375) }),
		change(book(), func(b *api.TurnBook) { b.Shots[0].At = to(0, 10) }),
		change(book(), func(b *api.TurnBook) { b.Shots[0].At = to(1429, 1439) }),
		change(book(), func(b *api.TurnBook) { b.Shots[0].Station, b.Shots[0].Company = 1, 2 }),
		{Companies: 2, Bounds: []api.Span{just(1), just(2), just(3), just(4)}, Orders: [][]int{{0, 1, 0, 1, 0}, {0, 0, 0, 0, 0}, {1, 1, 1, 1, 1}}},
	} {
		if e := turn.Check(b); e != api.OK {
			t.Errorf("Check of the valid book %d: %d", i, e)
		}
	}
}

// wrongBooks are books that are not valid, each by one thing.
func wrongBooks() []api.TurnBook {
	books := []api.TurnBook{
		{}, {Companies: 1}, {Orders: [][]int{{0}}}, {Companies: 1, Orders: [][]int{nil}},
		{Companies: 2, Bounds: []api.Span{just(1), just(2), just(3), just(4), just(5)}, Orders: [][]int{{0, 1, 0, 1, 0, 1}}},
	}
	for _, what := range []func(b *api.TurnBook){
		func(b *api.TurnBook) { b.Companies = 0 },
		func(b *api.TurnBook) { b.Companies = -3 },
		func(b *api.TurnBook) { b.Companies = 2 },
		func(b *api.TurnBook) { b.Companies = 5 },
		func(b *api.TurnBook) { b.Bounds = b.Bounds[:1] },
		func(b *api.TurnBook) { b.Bounds = nil },
		func(b *api.TurnBook) { b.Bounds = append(b.Bounds, just(600)) },
		func(b *api.TurnBook) { b.Bounds[0] = to(-1, 3) },
		func(b *api.TurnBook) { b.Bounds[0] = to(364, 363) },
		func(b *api.TurnBook) { b.Bounds[0] = to(350, 361) },
		func(b *api.TurnBook) { b.Bounds[1] = to(364, 366) },
		func(b *api.TurnBook) { b.Bounds[1] = to(350, 355) },
		func(b *api.TurnBook) { b.Bounds[1] = to(540, 551) },
		func(b *api.TurnBook) { b.Bounds[1] = to(1435, 1440) },
		func(b *api.TurnBook) { b.Bounds[0], b.Bounds[1] = b.Bounds[1], b.Bounds[0] },
		func(b *api.TurnBook) { b.Orders = nil },
		func(b *api.TurnBook) { b.Orders = append(b.Orders, b.Orders...) },
		func(b *api.TurnBook) { b.Orders[0] = []int{0, 1} },
		func(b *api.TurnBook) { b.Orders[1] = []int{0, 1, 2, 0} },
		func(b *api.TurnBook) { b.Orders[1] = nil },
		func(b *api.TurnBook) { b.Orders[1][0] = -1 },
		func(b *api.TurnBook) { b.Orders[0][2] = 3 },
		func(b *api.TurnBook) { b.Shots = append(b.Shots, b.Shots[:2]...) },
		func(b *api.TurnBook) { b.Shots[1].Station = 2 },
		func(b *api.TurnBook) { b.Shots[1].Station = -1 },
		func(b *api.TurnBook) { b.Shots[1].Company = 3 },
		func(b *api.TurnBook) { b.Shots[1].Company = -1 },
		func(b *api.TurnBook) { b.Shots[3].At = to(535, 546) },
		func(b *api.TurnBook) { b.Shots[3].At = to(5, 4) },
		func(b *api.TurnBook) { b.Shots[3].At = to(-1, 4) },
		func(b *api.TurnBook) { b.Shots[3].At = to(1435, 1440) },
		func(b *api.TurnBook) { b.Shots[3].At = just(1440) },
	} {
		books = append(books, change(book(), what))
	}
	return books
}

// TestCheckWrong is of P2.1: all functions return the error of a wrong book first.
func TestCheckWrong(t *testing.T) {
	for i, b := range wrongBooks() {
		for _, number := range []int{0, -1} {
			for f, e := range errorsOf(results(b, number, number, number, number, number)) {
				if e != api.ErrTurn {
					t.Errorf("the wrong book %d, the function %d, asked %d: %d", i, f, number, e)
				}
			}
		}
	}
}

// TestErrors is of P2.1 to P2.7: which number is wrong to ask of which function.
func TestErrors(t *testing.T) {
	const ok, ask, none = api.OK, api.ErrTurnAsk, api.ErrNone
	for i, x := range []struct {
		b                                    api.TurnBook
		station, minute, company, one, other int
		want                                 []api.Errno // Check, Turn, Owners, Fair, Hangs, First, Sure, Wrong, Learn
	}{
		{book(), 1, 1439, 2, 3, 0, []api.Errno{ok, ok, ok, ok, ok, ok, ok, ok, ok}},
		{book(), 0, 0, 0, 0, 3, []api.Errno{ok, ok, ok, ok, ok, ok, ok, ok, ok}},
		{book(), 2, 0, 0, 0, 1, []api.Errno{ok, ok, ask, ok, ok, ok, ask, ok, ok}},
		{book(), -1, 0, 0, 0, 1, []api.Errno{ok, ok, ask, ok, ok, ok, ask, ok, ok}},
		{book(), 0, 1440, 0, 0, 1, []api.Errno{ok, ask, ask, ok, ok, ok, ok, ok, ok}},
		{book(), 0, -1, 0, 0, 1, []api.Errno{ok, ask, ask, ok, ok, ok, ok, ok, ok}},
		{book(), 0, 0, 3, 0, 1, []api.Errno{ok, ok, ok, ok, ok, ok, ask, ok, ok}},
		{book(), 0, 0, -1, 0, 1, []api.Errno{ok, ok, ok, ok, ok, ok, ask, ok, ok}},
		{book(), 0, 0, 0, 4, 1, []api.Errno{ok, ok, ok, ask, ask, ask, ok, ok, ok}},
		{book(), 0, 0, 0, -1, 1, []api.Errno{ok, ok, ok, ask, ask, ask, ok, ok, ok}},
		{book(), 0, 0, 0, 1, 4, []api.Errno{ok, ok, ok, ok, ok, ask, ok, ok, ok}},
		{book(), 0, 0, 0, 1, -1, []api.Errno{ok, ok, ok, ok, ok, ask, ok, ok, ok}},
		{book(), 0, 0, 0, 1, 1, []api.Errno{ok, ok, ok, ok, ok, ask, ok, ok, ok}},
		{bare(), 0, 0, 0, 0, 1, []api.Errno{ok, ok, ok, ask, ask, ask, ok, ok, none}},
	} {
		if l := errorsOf(results(x.b, x.station, x.minute, x.company, x.one, x.other)); !slices.Equal(l, x.want) {
			t.Errorf("the errors %d: %v, not %v", i, l, x.want)
		}
	}
}

// TestTurn is of P2.1.
func TestTurn(t *testing.T) {
	next := change(book(), func(b *api.TurnBook) { b.Bounds[1] = to(365, 370) })
	morning := change(book(), func(b *api.TurnBook) { b.Bounds = []api.Span{just(0), to(1, 3)} })
	night := change(book(), func(b *api.TurnBook) { b.Bounds = []api.Span{to(1435, 1438), just(1439)} })
	for i, x := range []struct {
		b      api.TurnBook
		minute int
		want   api.Span
	}{
		{book(), 0, just(0)}, {book(), 359, just(0)}, {book(), 360, to(0, 1)}, {book(), 362, to(0, 1)}, {book(), 363, to(0, 1)}, {book(), 364, just(1)},
		{book(), 539, just(1)}, {book(), 540, to(1, 2)}, {book(), 541, to(1, 2)}, {book(), 545, just(2)}, {book(), 1439, just(2)},
		{next, 364, just(1)}, {next, 365, to(1, 2)}, {next, 370, just(2)},
		{morning, 0, just(1)}, {morning, 1, to(1, 2)}, {morning, 3, just(2)},
		{night, 1438, just(1)}, {night, 1439, just(2)},
		{bare(), 700, just(0)},
	} {
		if s, e := turn.Turn(x.b, x.minute); s != x.want || e != api.OK {
			t.Errorf("Turn %d: %v, %d", i, s, e)
		}
	}
}

// TestOwners is of P2.2.
func TestOwners(t *testing.T) {
	twice := change(book(), func(b *api.TurnBook) { b.Orders[0][1] = 0 })
	for i, x := range []struct {
		b               api.TurnBook
		station, minute int
		want            []int
	}{
		{book(), 0, 362, []int{0, 1}}, {book(), 1, 541, []int{0, 2}}, {book(), 1, 400, []int{2}}, {book(), 0, 359, []int{0}}, {book(), 0, 1439, []int{2}},
		// one company has both turns
		{twice, 0, 362, []int{0}}, {twice, 0, 541, []int{0, 2}}, {twice, 1, 362, []int{1, 2}},
		{bare(), 0, 0, []int{1}}, {bare(), 1, 700, []int{2}},
	} {
		if l, e := turn.Owners(x.b, x.station, x.minute); !slices.Equal(l, x.want) || e != api.OK {
			t.Errorf("Owners %d: %v, %d", i, l, e)
		}
	}
}

// TestFair is of P2.3: Fair and Hangs.
func TestFair(t *testing.T) {
	at := func(low, high int) api.TurnBook {
		return change(book(), func(b *api.TurnBook) { b.Shots[0].At = to(low, high) })
	}
	sure := change(at(360, 364), func(b *api.TurnBook) { b.Bounds[0] = just(362) })
	// the turn 1 is short, so a shot can be before it and behind it
	short := change(at(362, 366), func(b *api.TurnBook) { b.Bounds[1] = to(365, 368) })
	for i, x := range []struct {
		b    api.TurnBook
		shot int
		fair int
		on   []int
	}{
		{book(), 0, 1, []int{0}}, {book(), 1, 2, nil}, {book(), 2, 2, nil}, {book(), 3, 1, []int{1}}, {torn(), 4, 0, nil},
		{at(363, 363), 0, 1, []int{0}}, {at(364, 370), 0, 2, nil}, {at(364, 364), 0, 2, nil}, {at(350, 359), 0, 0, nil}, {at(350, 360), 0, 1, []int{0}},
		{at(530, 539), 0, 2, nil}, {at(530, 540), 0, 1, []int{1}}, {at(544, 550), 0, 1, []int{1}}, {at(545, 550), 0, 0, nil},
		// it is open when it was shot, but on no bound does it hang
		{sure, 0, 1, nil},
		{short, 0, 1, []int{0, 1}},
		// both turns are of one company
		{change(book(), func(b *api.TurnBook) { b.Orders[0][0] = 1 }), 0, 2, nil},
		{change(book(), func(b *api.TurnBook) { b.Orders[0][1] = 0 }), 0, 0, nil},
		{bare(shot(0, 1, to(0, 10))), 0, 2, nil}, {bare(shot(0, 2, to(0, 10))), 0, 0, nil},
	} {
		if n, e := turn.Fair(x.b, x.shot); n != x.fair || e != api.OK {
			t.Errorf("Fair %d: %d, %d", i, n, e)
		}
		if l, e := turn.Hangs(x.b, x.shot); !slices.Equal(l, x.on) || e != api.OK {
			t.Errorf("Hangs %d: %v, %d", i, l, e)
		}
	}
}

// TestFirst is of P2.4.
func TestFirst(t *testing.T) {
	for i, x := range []struct {
		one, other  api.Span
		there, back int
	}{
		{just(359), to(362, 366), 2, 0}, {to(362, 366), to(541, 543), 2, 0}, {to(362, 366), just(367), 2, 0},
		{to(362, 366), just(366), 1, 0}, {to(362, 366), just(364), 1, 1}, {just(362), to(362, 366), 1, 0},
		{just(400), just(400), 0, 0}, {to(400, 401), to(400, 401), 1, 1}, {to(400, 405), to(405, 410), 1, 0}, {to(400, 406), to(405, 410), 1, 1},
	} {
		b := bare(shot(0, 0, x.one), shot(1, 1, x.other))
		if n, e := turn.First(b, 0, 1); n != x.there || e != api.OK {
			t.Errorf("First %d: %d, %d", i, n, e)
		}
		if n, e := turn.First(b, 1, 0); n != x.back || e != api.OK {
			t.Errorf("First %d, turned round: %d, %d", i, n, e)
		}
	}
}

// TestSure is of P2.5.
func TestSure(t *testing.T) {
	again := change(book(), func(b *api.TurnBook) { b.Orders[0][2] = 0 })
	twice := change(book(), func(b *api.TurnBook) { b.Orders[0][1] = 0 })
	known := change(again, func(b *api.TurnBook) { b.Bounds = []api.Span{just(362), just(363)} })
	night := change(book(), func(b *api.TurnBook) { b.Bounds = []api.Span{to(0, 10), to(1429, 1439)} })
	for i, x := range []struct {
		b                api.TurnBook
		station, company int
		want             []api.Span
	}{
		{book(), 0, 1, []api.Span{to(364, 539)}}, {book(), 1, 0, []api.Span{to(545, 1439)}}, {book(), 0, 0, []api.Span{to(0, 359)}},
		{again, 0, 0, []api.Span{to(0, 359), to(545, 1439)}}, {again, 0, 2, nil}, {twice, 0, 0, []api.Span{to(0, 539)}},
		{known, 0, 0, []api.Span{to(0, 361), to(363, 1439)}}, {known, 0, 1, []api.Span{just(362)}},
		{night, 0, 0, nil}, {night, 0, 1, []api.Span{to(10, 1428)}}, {night, 0, 2, []api.Span{just(1439)}},
		{bare(), 0, 1, []api.Span{to(0, 1439)}}, {bare(), 0, 2, nil},
	} {
		if l, e := turn.Sure(x.b, x.station, x.company); !slices.Equal(l, x.want) || e != api.OK {
			t.Errorf("Sure %d: %v, %d", i, l, e)
		}
	}
}

// TestWrong is of P2.6.
func TestWrong(t *testing.T) {
	shots := func(l ...api.TurnShot) api.TurnBook {
		return change(book(), func(b *api.TurnBook) { b.Shots = l })
	}
	for i, x := range []struct {
		b    api.TurnBook
		want []int
	}{
		{book(), nil}, {late(), nil}, {torn(), []int{4}}, {shots(), nil}, {bare(), nil},
		{bare(shot(0, 1, just(5)), shot(0, 2, just(5)), shot(1, 1, just(5))), []int{1, 2}},
		// each can be fair, but not both: the first one
		{shots(shot(0, 0, just(362)), shot(0, 1, just(362))), []int{0}},
		{shots(shot(0, 1, just(361)), shot(0, 0, just(363))), []int{0}},
		{shots(shot(0, 0, just(361)), shot(0, 1, just(363))), nil},
		{shots(shot(0, 1, to(361, 362)), shot(0, 0, to(362, 363))), []int{0}},
		{shots(shot(0, 1, to(361, 363)), shot(0, 0, to(362, 363))), nil},
		// two against one: the fewest come before the first
		{shots(shot(0, 0, just(362)), shot(1, 1, just(362)), shot(0, 1, just(362))), []int{2}},
		{shots(shot(0, 1, just(362)), shot(1, 1, just(362)), shot(0, 0, just(362)), shot(1, 0, just(541))), []int{0}},
		// an unfair one beside a choice, by the elements
		{shots(shot(0, 2, just(5)), shot(0, 1, just(362)), shot(0, 0, just(362)), shot(0, 2, just(541)), shot(0, 1, just(541))), []int{0, 1, 3}},
		{shots(shot(0, 2, just(5)), shot(0, 2, just(5)), shot(1, 0, just(5)), shot(0, 1, just(5)), shot(1, 2, just(5))), []int{0, 1, 2, 3, 4}},
	} {
		if l, e := turn.Wrong(x.b); !slices.Equal(l, x.want) || e != api.OK {
			t.Errorf("Wrong %d: %v, %d", i, l, e)
		}
	}
}

// TestLearn is of P2.7.
func TestLearn(t *testing.T) {
	shots := func(l ...api.TurnShot) api.TurnBook {
		return change(book(), func(b *api.TurnBook) { b.Shots = l })
	}
	for i, x := range []struct {
		b    api.TurnBook
		want int
		e    api.Errno
	}{
		{book(), 0, api.OK}, {late(), 1, api.OK}, {torn(), 0, api.OK}, {shots(), 0, api.OK},
		{shots(shot(0, 1, just(541))), 1, api.OK},
		// more shots hang on the bound 1, but at the worst as many are left with either
		{shots(shot(0, 1, just(361)), shot(0, 1, to(538, 545)), shot(0, 2, to(538, 545))), 0, api.OK},
		{shots(shot(0, 1, just(361)), shot(0, 1, just(541)), shot(0, 2, just(541))), 1, api.OK},
		// what counts is the worst minute
		{shots(shot(0, 1, to(360, 361)), shot(0, 1, just(541))), 1, api.OK},
		{shots(shot(0, 0, just(361)), shot(0, 1, to(540, 544))), 0, api.OK},
		{change(shots(shot(0, 1, just(541))), func(b *api.TurnBook) { b.Bounds[1] = just(540) }), 0, api.OK},
		// a bound at the first minute of the day is one, too
		{api.TurnBook{Companies: 1, Bounds: []api.Span{just(0)}, Orders: [][]int{{0, 0}}}, 0, api.OK},
		{api.TurnBook{Companies: 1, Bounds: []api.Span{just(1439)}, Orders: [][]int{{0, 0}}}, 0, api.OK},
		{bare(), 0, api.ErrNone}, {bare(shot(0, 1, just(5))), 0, api.ErrNone},
	} {
		if n, e := turn.Learn(x.b); n != x.want || e != x.e {
			t.Errorf("Learn %d: %d, %d", i, n, e)
		}
	}
}
