package watch_test

import (
	"math"
	"slices"
	"testing"

	"huer/api"
	"huer/watch"
)

// shot is one that a book of turns tells of.
func shot(station, company int, at api.Span) api.TurnShot {
	return api.TurnShot{Station: station, Company: company, At: at}
}

// stations is a change after which there are so many stations, all of them company 0's, with the whole bay as their ground.
func stations(many int) func(b *api.WatchBook) {
	return func(b *api.WatchBook) {
		b.Turn.Orders = slices.Repeat([][]int{make([]int, len(b.Turn.Bounds)+1)}, many)
		b.Grounds = slices.Repeat([]api.WatchGround{square(0, b.Cry.Wide, b.Cry.High)}, many)
	}
}

// TestCheckValid is of P9.1: each limit, and what it includes.
func TestCheckValid(t *testing.T) {
	greatest := book(func(b *api.WatchBook) { b.Cry.Wide, b.Cry.High = 10, 8 })
	for i, b := range []api.WatchBook{
		book(), narrow(), swimming(), torn(), dry(), row(),
		book(start(0)), book(start(1409)),
		book(ground(0, square(0, 1, 1))), book(ground(0, square(23, 1, 1))), book(ground(0, square(5, 1, 4))), book(ground(0, square(18, 6, 1))), book(ground(0, square(8, 4, 3))), book(ground(1, square(0, 6, 4))), with(greatest, ground(0, square(0, 10, 8))), with(greatest, ground(0, square(79, 1, 1))),
		book(net(0, seine(1, 1))), book(net(1, seine(10, 10))), book(net(0, seine(1, 10))), book(net(1, seine(10, 1))),
		row(stations(1)), row(stations(3)), row(companies(4, slices.Repeat([]api.WatchNet{seine(1, 1)}, 4)...)),
		book(shots(slices.Repeat([]api.TurnShot{shot(0, 1, to(1, 11))}, 5)...)),
	} {
		if e := watch.Check(b); e != api.OK {
			t.Errorf("Check of the valid book %d: %d", i, e)
		}
	}
}

// wrongBooks are books that are not valid, each by one thing.
func wrongBooks() []api.WatchBook {
	return []api.WatchBook{
		{},
		// a bay, and turns, that are not valid
		book(swim(4)), book(swim(-1)), book(land(24)), book(cried(sees(2, 0, point(1, 1), point(1, 1)))), book(func(b *api.WatchBook) { b.Cry.Wide = 0 }), book(func(b *api.WatchBook) { b.Cry.High = 9 }), book(cried(slices.Repeat([]api.CryCry{sees(0, 0, point(1, 1), point(1, 1))}, 7)...)),
		book(func(b *api.WatchBook) { b.Turn.Companies = 0 }), book(companies(5, slices.Repeat([]api.WatchNet{seine(1, 1)}, 5)...)), book(bounds()), book(bounds(to(400, 411))), book(orders([]int{0, 2}, []int{1, 0})), book(shots(shot(2, 0, to(1, 1)))), row(stations(0)), row(stations(4)),
		book(start(-1)), book(start(1410)), book(start(math.MaxInt)), book(start(math.MinInt)),
		// one ground for each station
		book(grounds()), book(grounds(square(0, 6, 4))), book(grounds(square(0, 6, 4), square(0, 6, 4), square(0, 6, 4))),
		book(ground(0, square(-1, 1, 1))), book(ground(1, square(24, 1, 1))), book(ground(0, square(math.MaxInt, 1, 1))), book(ground(0, square(math.MinInt, 1, 1))),
		book(ground(0, square(0, 0, 4))), book(ground(1, square(0, 6, 0))), book(ground(0, square(8, -1, 1))), book(ground(0, square(8, 1, -1))), book(ground(0, square(8, math.MinInt, 1))), book(ground(0, square(8, 1, math.MinInt))),
		book(ground(0, square(0, 7, 4))), book(ground(1, square(0, 6, 5))), book(ground(0, square(5, 2, 1))), book(ground(0, square(1, 6, 1))), book(ground(1, square(18, 1, 2))), book(ground(1, square(6, 1, 4))), book(ground(0, square(23, 1, 2))), book(ground(0, square(23, 2, 1))), book(ground(0, square(8, math.MaxInt, 1))), book(ground(0, square(8, 1, math.MaxInt))),
		// one net for each company
		book(companies(2)), book(companies(2, seine(2, 2))), book(companies(2, seine(2, 2), seine(2, 2), seine(2, 2))), book(companies(3, seine(2, 2), seine(2, 2))),
		book(net(0, seine(0, 1))), book(net(1, seine(1, 0))), book(net(0, seine(11, 1))), book(net(1, seine(1, 11))), book(net(0, seine(-1, 1))), book(net(1, seine(1, math.MinInt))), book(net(0, seine(math.MaxInt, 1))),
	}
}

// TestCheckWrong is of P9.1: all functions return the error of a wrong book first, whatever is asked.
func TestCheckWrong(t *testing.T) {
	for i, b := range wrongBooks() {
		for _, asked := range [][4]int{{0, 0, 0, 1}, {-1, -1, -1, 0}, {math.MaxInt, math.MinInt, math.MaxInt, math.MinInt}} {
			for f, e := range errorsOf(results(b, asked[0], asked[1], asked[2], asked[3])) {
				if e != api.ErrWatch {
					t.Errorf("the wrong book %d, the function %d, asked %v: %d", i, f, asked, e)
				}
			}
		}
	}
}

// TestAsked is of P9.1 to P9.8: the error of a wrong question, before that of a book that cannot be true, before that of none.
func TestAsked(t *testing.T) {
	const ok, ask, not, no = api.OK, api.ErrWatchAsk, api.ErrWatchFalse, api.ErrNone
	for i, x := range []struct {
		b                              api.WatchBook
		station, minute, company, many int
		want                           []api.Errno // of Check, Squares, In, Shot, Soon, May, Quarrel, Man and Lost
	}{
		{book(), 0, 0, 0, 1, []api.Errno{ok, ok, ok, ok, ok, ok, ok, ok, no}}, {book(), 1, 30, 1, 2, []api.Errno{ok, ok, ok, ok, ok, ok, ok, ok, no}}, {narrow(), 1, 30, 1, 2, []api.Errno{ok, ok, ok, no, no, ok, ok, ok, ok}},
		{book(), 2, 0, 0, 1, []api.Errno{ok, ask, ask, ask, ok, ask, ask, ok, no}}, {book(), -1, 0, 0, 1, []api.Errno{ok, ask, ask, ask, ok, ask, ask, ok, no}},
		{book(), 0, 31, 0, 1, []api.Errno{ok, ok, ask, ask, ok, ok, ask, ok, no}}, {book(), 0, -1, 0, 1, []api.Errno{ok, ok, ask, ask, ok, ok, ask, ok, no}},
		{book(), 0, 0, 2, 1, []api.Errno{ok, ok, ok, ok, ok, ask, ok, ok, no}}, {book(), 0, 0, -1, 1, []api.Errno{ok, ok, ok, ok, ok, ask, ok, ok, no}},
		{book(), 0, 0, 0, 0, []api.Errno{ok, ok, ok, ok, ok, ok, ok, ask, no}}, {book(), 0, 0, 0, 3, []api.Errno{ok, ok, ok, ok, ok, ok, ok, ask, no}}, {book(), 0, 0, 0, -1, []api.Errno{ok, ok, ok, ok, ok, ok, ok, ask, no}},
		// companies and stations are not as many
		{row(stations(3)), 2, 0, 0, 3, []api.Errno{ok, ok, ok, no, no, ok, ok, ok, no}}, {row(stations(3)), 3, 0, 1, 4, []api.Errno{ok, ask, ask, ask, no, ask, ask, ask, no}}, {row(stations(3)), 2, 0, 1, 3, []api.Errno{ok, ok, ok, no, no, ask, ok, ok, no}}, {row(companies(2, seine(8, 1), seine(8, 1))), 0, 0, 1, 1, []api.Errno{ok, ok, ok, ok, ok, ok, ok, ok, no}}, {row(companies(2, seine(8, 1), seine(8, 1))), 1, 0, 1, 2, []api.Errno{ok, ask, ask, ask, ok, ask, ask, ask, no}},
		{torn(), 0, 0, 0, 1, []api.Errno{ok, ok, not, not, not, not, ok, not, not}}, {torn(), 2, 31, 2, 3, []api.Errno{ok, ask, ask, ask, not, ask, ask, ask, not}}, {dry(), 0, 30, 0, 1, []api.Errno{ok, ok, not, not, not, not, ok, not, not}}, {dry(), -1, -1, -1, 0, []api.Errno{ok, ask, ask, ask, not, ask, ask, ask, not}},
	} {
		if list := errorsOf(results(x.b, x.station, x.minute, x.company, x.many)); !slices.Equal(list, x.want) {
			t.Errorf("the errors %d: %v, not %v", i, list, x.want)
		}
	}
}

// TestExamples is of P9.1 to P9.8: the chapter's examples, and that of DOC.md on a company whose turn it perhaps is.
func TestExamples(t *testing.T) {
	checkSquares(t, []squaresOf{{book(), 0, []int{1, 2, 3, 7, 8, 9, 13, 14, 15, 19, 20, 21}}})
	checkIn(t, []inOf{{book(), 0, 0, 2}, {swimming(), 0, 0, 2}, {swimming(), 0, 1, 1}, {narrow(), 0, 0, 0}})
	checkShot(t, []shotOf{{book(), 0, 0, [2]int{0, 7}}, {book(), 0, 2, none}, {book(), 0, 4, [2]int{1, 7}}, {book(), 1, 0, [2]int{1, 6}}})
	checkSoon(t, []soonOf{{book(), [2]int{0, 0}}, {swimming(), none}})
	checkMay(t, []mayOf{{book(), 0, 0, run(0, 3)}, {book(), 0, 1, run(2, 30)}})
	checkQuarrel(t, []quarrelOf{{book(), 0, 0, nil}, {book(), 0, 2, []int{0}}, {book(), 0, 4, nil}})
	checkMan(t, []manOf{{book(), 1, []int{0}}, {book(), 2, []int{0, 1}}, {narrow(), 1, []int{0}}})
	checkLost(t, []lostOf{{book(), -1}, {narrow(), 0}})
}

// squaresOf is what Squares returns.
type squaresOf struct {
	b       api.WatchBook
	station int
	want    []int
}

func checkSquares(t *testing.T, all []squaresOf) {
	t.Helper()
	for i, x := range all {
		if l, e := watch.Squares(x.b, x.station); !slices.Equal(l, x.want) || e != api.OK {
			t.Errorf("Squares %d: %v, %d, not %v", i, l, e, x.want)
		}
	}
}

// TestSquares is of P9.1.
func TestSquares(t *testing.T) {
	checkSquares(t, []squaresOf{
		{book(), 1, run(0, 23)}, {narrow(), 0, []int{0, 6, 12, 18}}, {narrow(), 1, []int{5, 11, 17, 23}},
		{book(ground(0, square(22, 2, 1))), 0, []int{22, 23}}, {book(ground(0, square(8, 2, 2))), 0, []int{8, 9, 14, 15}}, {book(ground(1, square(23, 1, 1))), 1, []int{23}}, {book(ground(1, square(0, 1, 1))), 1, []int{0}},
		// be they land, and the cries wrong
		{book(land(1, 8, 14), ground(0, square(7, 2, 2))), 0, []int{7, 8, 13, 14}}, {torn(), 1, run(0, 23)}, {dry(), 0, []int{0, 1}},
	})
}

// inOf is what In returns.
type inOf struct {
	b                     api.WatchBook
	station, minute, want int
}

func checkIn(t *testing.T, all []inOf) {
	t.Helper()
	for i, x := range all {
		if n, e := watch.In(x.b, x.station, x.minute); n != x.want || e != api.OK {
			t.Errorf("In %d: %d, %d, not %d", i, n, e, x.want)
		}
	}
}

// TestIn is of P9.2: the shoal is in 7, 8 or 14, and in the row it swims a column a minute.
func TestIn(t *testing.T) {
	at := func(g api.WatchGround) api.WatchBook { return book(ground(0, g)) }
	checkIn(t, []inOf{
		{book(), 1, 0, 2}, {book(), 0, 30, 2}, {swimming(), 1, 1, 2},
		// all of it, and some, by columns and by rows
		{at(square(7, 2, 2)), 0, 0, 2}, {at(square(7, 2, 1)), 0, 9, 1}, {at(square(13, 2, 1)), 0, 0, 1}, {at(square(7, 1, 2)), 0, 0, 1}, {at(square(8, 1, 2)), 0, 0, 1}, {at(square(8, 1, 1)), 0, 0, 1}, {at(square(13, 1, 1)), 0, 0, 0}, {at(square(0, 6, 1)), 0, 0, 0}, {at(square(9, 3, 3)), 0, 0, 0}, {at(square(18, 6, 1)), 0, 0, 0}, {at(square(12, 6, 2)), 0, 0, 1}, {at(square(6, 2, 3)), 0, 0, 1}, {at(square(2, 4, 4)), 0, 0, 1},
		// land has no shoal
		{row(land(0, 1, 2)), 0, 0, 2}, {row(land(0, 1, 2), ground(0, square(3, 5, 1))), 0, 0, 2}, {row(land(0, 1, 2), ground(0, square(0, 3, 1))), 0, 0, 0}, {row(land(0, 1, 2), ground(0, square(0, 4, 1))), 0, 0, 1},
		// what is cried at a minute tells of those before it, and behind it
		{row(within(10, 3, 3), ground(0, square(1, 5, 1))), 0, 7, 1}, {row(within(10, 3, 3), ground(0, square(1, 5, 1))), 0, 8, 2}, {row(within(10, 3, 3), ground(0, square(1, 5, 1))), 0, 12, 2}, {row(within(10, 3, 3), ground(0, square(1, 5, 1))), 0, 13, 1}, {row(within(10, 7, 7), ground(0, square(0, 2, 1))), 0, 5, 0}, {row(within(10, 7, 7), ground(0, square(0, 2, 1))), 0, 4, 1}, {row(within(10, 7, 7), ground(0, square(0, 2, 1))), 0, 16, 1},
	})
}

// shotOf is what Shot returns: the company and the square.
type shotOf struct {
	b               api.WatchBook
	station, minute int
	want            [2]int
}

func checkShot(t *testing.T, all []shotOf) {
	t.Helper()
	for i, x := range all {
		want, f := x.want, api.OK
		if want == none {
			want, f = [2]int{}, api.ErrNone
		}
		if company, at, e := watch.Shot(x.b, x.station, x.minute); [2]int{company, at} != want || e != f {
			t.Errorf("Shot %d: %d, %d, %d, not %v, %d", i, company, at, e, want, f)
		}
	}
}

// TestShot is of P9.3: the turn, the ground and the seine.
func TestShot(t *testing.T) {
	inRow := func(first, last, wide int, changes ...func(b *api.WatchBook)) api.WatchBook {
		return row(append(changes, within(3, first, last), net(0, seine(wide, 1)))...)
	}
	checkShot(t, []shotOf{
		// turns change at 400 to 402, between 2 and 4
		{book(), 0, 1, [2]int{0, 7}}, {book(), 0, 3, none}, {book(), 0, 30, [2]int{1, 7}}, {book(), 1, 1, [2]int{1, 6}}, {book(), 1, 2, none}, {book(), 1, 4, [2]int{0, 7}}, {book(start(400)), 0, 0, none}, {book(start(402)), 0, 0, [2]int{1, 7}}, {book(start(369)), 0, 30, [2]int{0, 7}}, {book(start(370)), 0, 30, none}, {book(start(1409)), 0, 30, [2]int{1, 7}}, {book(start(0)), 0, 0, [2]int{0, 7}}, {book(bounds(to(398, 398))), 0, 0, [2]int{1, 7}}, {book(bounds(to(399, 399))), 0, 0, [2]int{0, 7}},
		// whenever it changes, it is one company's
		{book(orders([]int{1, 1}, []int{1, 0})), 0, 2, [2]int{1, 7}}, {book(orders([]int{0, 0}, []int{1, 0})), 0, 30, [2]int{0, 7}},
		// what was shot makes no difference
		{book(shots(shot(0, 1, to(398, 398)))), 0, 0, [2]int{0, 7}}, {book(shots(shot(0, 1, to(400, 400)))), 0, 2, none},
		// all columns and rows of the seine are in the ground
		{book(ground(0, square(7, 2, 2))), 0, 0, [2]int{0, 7}}, {book(ground(0, square(7, 2, 2))), 0, 4, none}, {book(ground(0, square(6, 3, 2))), 0, 4, [2]int{1, 6}}, {book(ground(0, square(7, 2, 3))), 0, 0, [2]int{0, 7}}, {book(ground(0, square(7, 2, 1))), 0, 0, none}, {book(ground(0, square(8, 4, 3))), 0, 0, none}, {book(ground(0, square(0, 2, 4))), 0, 0, none}, {book(ground(0, square(12, 6, 2))), 0, 0, none},
		{book(net(0, seine(3, 4))), 0, 0, [2]int{0, 1}}, {book(net(0, seine(3, 5))), 0, 0, none}, {book(net(0, seine(4, 4))), 0, 0, none}, {book(net(0, seine(10, 10))), 0, 0, none}, {book(net(0, seine(6, 4))), 1, 4, [2]int{0, 0}}, {book(net(0, seine(7, 4))), 1, 4, none}, {book(net(0, seine(6, 5))), 1, 4, none},
		// it incloses the shoal in each truth
		{book(net(0, seine(2, 1))), 0, 0, none}, {book(net(0, seine(1, 2))), 0, 0, none}, {book(net(0, seine(2, 3))), 0, 0, [2]int{0, 1}}, {book(net(0, seine(3, 2))), 0, 0, [2]int{0, 7}}, {swimming(net(0, seine(3, 4))), 0, 0, [2]int{0, 1}}, {swimming(net(0, seine(3, 3))), 0, 0, none}, {swimming(net(1, seine(4, 4))), 1, 1, [2]int{1, 0}},
		{inRow(3, 4, 2), 0, 3, [2]int{0, 3}}, {inRow(3, 4, 2), 0, 4, none}, {inRow(3, 4, 4), 0, 4, [2]int{0, 2}}, {inRow(3, 4, 4), 0, 2, [2]int{0, 2}}, {inRow(3, 4, 6), 0, 1, [2]int{0, 1}}, {inRow(3, 4, 6), 0, 0, none}, {inRow(3, 4, 8), 0, 30, [2]int{0, 0}}, {inRow(7, 7, 1), 0, 3, [2]int{0, 7}}, {inRow(0, 0, 1), 0, 3, [2]int{0, 0}},
		// the first square for it, from the ground's own on, and land, too
		{inRow(5, 6, 4), 0, 3, [2]int{0, 3}}, {inRow(5, 6, 4, ground(0, square(4, 4, 1))), 0, 3, [2]int{0, 4}}, {inRow(2, 3, 4), 0, 3, [2]int{0, 0}}, {inRow(2, 3, 4, ground(0, square(1, 7, 1))), 0, 3, [2]int{0, 1}}, {inRow(5, 6, 4, land(3, 4)), 0, 3, [2]int{0, 3}}, {inRow(2, 3, 4, ground(0, square(0, 3, 1))), 0, 3, none},
	})
}

// soonOf is what Soon returns: the minute and the station.
type soonOf struct {
	b    api.WatchBook
	want [2]int
}

func checkSoon(t *testing.T, all []soonOf) {
	t.Helper()
	for i, x := range all {
		want, f := x.want, api.OK
		if want == none {
			want, f = [2]int{}, api.ErrNone
		}
		if minute, station, e := watch.Soon(x.b); [2]int{minute, station} != want || e != f {
			t.Errorf("Soon %d: %d, %d, %d, not %v, %d", i, minute, station, e, want, f)
		}
	}
}

// TestSoon is of P9.4: the minute comes before the station.
func TestSoon(t *testing.T) {
	checkSoon(t, []soonOf{
		{narrow(), none}, {book(net(0, seine(1, 1))), [2]int{0, 1}}, {book(start(400)), [2]int{2, 0}}, {book(start(400), net(1, seine(1, 1))), [2]int{2, 1}}, {book(start(400), net(1, seine(1, 1)), net(0, seine(1, 1))), none},
		{book(net(0, seine(1, 1)), ground(1, square(12, 6, 2))), [2]int{4, 0}},
		// both later than the first one, one of them sooner than the other one
		{row(within(3, 5, 6), net(0, seine(2, 1))), [2]int{3, 0}}, {row(within(30, 5, 5)), [2]int{30, 0}}, {row(within(0, 5, 5)), [2]int{0, 0}}, {row(within(5, 1, 1), within(20, 6, 6), stations(2), ground(0, square(4, 4, 1))), [2]int{5, 1}}, {row(within(5, 6, 6), within(20, 1, 1), stations(2), ground(0, square(4, 4, 1))), [2]int{5, 0}}, {row(within(20, 6, 6), stations(3), ground(0, square(0, 5, 1))), [2]int{20, 1}}, {row(within(20, 6, 6), stations(3), ground(0, square(0, 5, 1)), ground(1, square(0, 5, 1))), [2]int{20, 2}},
	})
}

// mayOf is what May returns.
type mayOf struct {
	b                api.WatchBook
	station, company int
	want             []int
}

func checkMay(t *testing.T, all []mayOf) {
	t.Helper()
	for i, x := range all {
		if l, e := watch.May(x.b, x.station, x.company); !slices.Equal(l, x.want) || e != api.OK {
			t.Errorf("May %d: %v, %d, not %v", i, l, e, x.want)
		}
	}
}

// TestMay is of P9.5.
func TestMay(t *testing.T) {
	checkMay(t, []mayOf{
		{book(), 1, 0, run(2, 30)}, {book(), 1, 1, run(0, 3)}, {book(orders([]int{0, 0}, []int{1, 0})), 0, 0, run(0, 30)}, {book(orders([]int{0, 0}, []int{1, 0})), 0, 1, nil}, {book(start(500)), 0, 0, nil}, {book(start(0)), 0, 0, run(0, 30)},
		// though the shoal perhaps is elsewhere, or no seine can inclose it
		{narrow(), 0, 0, nil}, {book(ground(0, square(8, 1, 1))), 0, 0, run(0, 3)}, {book(net(0, seine(1, 1))), 0, 0, run(0, 3)}, {book(net(0, seine(10, 10))), 0, 0, run(0, 3)},
		{row(within(0, 6, 7), ground(0, square(0, 2, 1))), 0, 0, run(5, 30)}, {row(within(30, 6, 7), ground(0, square(0, 2, 1))), 0, 0, run(0, 25)}, {row(within(15, 6, 7), ground(0, square(0, 2, 1))), 0, 0, append(run(0, 10), run(20, 30)...)}, {row(within(15, 6, 7), companies(3, seine(1, 1), seine(1, 1), seine(1, 1)), bounds(to(10, 19), to(22, 22)), orders([]int{0, 1, 2}), ground(0, square(0, 2, 1))), 0, 0, run(0, 10)}, {row(within(15, 6, 7), companies(3, seine(1, 1), seine(1, 1), seine(1, 1)), bounds(to(10, 19), to(22, 22)), orders([]int{0, 1, 2}), ground(0, square(0, 2, 1))), 0, 1, []int{10, 20, 21}}, {row(within(15, 6, 7), companies(3, seine(1, 1), seine(1, 1), seine(1, 1)), bounds(to(10, 19), to(22, 22)), orders([]int{0, 1, 2}), ground(0, square(0, 2, 1))), 0, 2, run(22, 30)},
	})
}

// quarrelOf is what Quarrel returns.
type quarrelOf struct {
	b               api.WatchBook
	station, minute int
	want            []int
}

func checkQuarrel(t *testing.T, all []quarrelOf) {
	t.Helper()
	for i, x := range all {
		if l, e := watch.Quarrel(x.b, x.station, x.minute); !slices.Equal(l, x.want) || e != api.OK {
			t.Errorf("Quarrel %d: %v, %d, not %v", i, l, e, x.want)
		}
	}
}

// TestQuarrel is of P9.6: at 401 it hangs on the bound whether it has come; at 402 it has.
func TestQuarrel(t *testing.T) {
	three := func(changes ...func(b *api.WatchBook)) api.WatchBook {
		return book(append([]func(b *api.WatchBook){companies(4, slices.Repeat([]api.WatchNet{seine(2, 2)}, 4)...), bounds(to(398, 400), to(401, 401), to(402, 412)), orders([]int{3, 2, 1, 0}, []int{1, 1, 1, 0})}, changes...)...)
	}
	checkQuarrel(t, []quarrelOf{
		{book(), 0, 1, nil}, {book(), 0, 3, []int{0}}, {book(), 1, 2, []int{0}}, {book(), 1, 3, []int{0}}, {book(), 1, 4, nil}, {book(start(370)), 0, 30, []int{0}}, {book(start(402)), 0, 0, nil}, {book(start(401)), 0, 0, []int{0}},
		{book(bounds(to(400, 400))), 0, 2, nil}, {book(orders([]int{1, 1}, []int{1, 0})), 0, 2, nil}, {book(orders([]int{1, 1}, []int{1, 0})), 1, 2, []int{0}},
		{three(), 0, 0, []int{0}}, {three(), 0, 1, []int{0}}, {three(), 0, 2, nil}, {three(), 0, 3, nil}, {three(), 0, 4, []int{2}}, {three(), 0, 13, []int{2}}, {three(), 0, 14, nil}, {three(), 1, 0, nil}, {three(), 1, 4, []int{2}}, {three(), 1, 13, []int{2}},
		// be the cries right or not, the shoal in the ground or not, and whatever was shot
		{torn(), 0, 2, []int{0}}, {torn(), 0, 4, nil}, {dry(), 0, 0, nil}, {narrow(), 0, 2, []int{0}}, {book(shots(slices.Repeat([]api.TurnShot{shot(1, 1, to(401, 401))}, 5)...)), 0, 1, nil}, {book(shots(slices.Repeat([]api.TurnShot{shot(1, 1, to(1, 1))}, 5)...)), 0, 3, []int{0}},
	})
}

// manOf is what Man returns.
type manOf struct {
	b    api.WatchBook
	many int
	want []int
}

func checkMan(t *testing.T, all []manOf) {
	t.Helper()
	for i, x := range all {
		if l, e := watch.Man(x.b, x.many); !slices.Equal(l, x.want) || e != api.OK {
			t.Errorf("Man %d: %v, %d, not %v", i, l, e, x.want)
		}
	}
}

// TestMan is of P9.7.
func TestMan(t *testing.T) {
	// a shoal that does not swim is in 3, and shots are so many minutes of each station: from 0 on, or up to 30
	three := func(first, second, third api.Span) api.WatchBook {
		b := row(swim(0), within(0, 3, 3), companies(2, seine(1, 1), seine(2, 1)))
		for _, s := range []api.Span{first, second, third} {
			b.Turn.Bounds, b.Grounds = []api.Span{to(10, 10), to(20, 20)}, append(b.Grounds, square(3, 1, 1))
			order := []int{1, 1, 1}
			for turn := s.Low; turn <= s.High; turn++ {
				order[turn] = 0
			}
			b.Turn.Orders = append(b.Turn.Orders, order)
		}
		b.Turn.Orders, b.Grounds = b.Turn.Orders[1:], b.Grounds[1:]
		return b
	}
	never := to(0, -1)
	checkMan(t, []manOf{
		{narrow(), 2, []int{0, 1}}, {swimming(), 1, []int{0}}, {book(ground(0, square(7, 2, 2))), 1, []int{1}}, {book(net(0, seine(1, 1))), 1, []int{0}}, {book(net(1, seine(1, 1))), 1, []int{1}},
		// the turns 0 and 1 have 10 minutes, the turn 2 has 11
		{three(never, never, never), 1, []int{0}}, {three(never, never, never), 2, []int{0, 1}}, {three(never, never, never), 3, []int{0, 1, 2}}, {three(never, never, to(0, 0)), 1, []int{2}}, {three(never, never, to(0, 0)), 2, []int{0, 2}}, {three(to(0, 0), to(1, 1), to(2, 2)), 1, []int{2}}, {three(to(0, 0), to(1, 1), to(2, 2)), 2, []int{0, 2}}, {three(to(2, 2), to(1, 1), to(0, 0)), 2, []int{0, 1}}, {three(to(0, 0), to(1, 1), to(0, 1)), 1, []int{2}},
		// a minute counts once
		{three(to(0, 1), to(0, 1), to(0, 0)), 2, []int{0, 1}}, {three(to(0, 1), to(0, 1), to(2, 2)), 2, []int{0, 2}}, {three(to(1, 2), to(1, 2), to(0, 0)), 2, []int{0, 2}}, {three(to(0, 0), to(1, 2), to(1, 2)), 2, []int{0, 1}}, {three(to(1, 2), to(0, 0), to(2, 2)), 2, []int{0, 1}}, {three(to(2, 2), to(0, 1), to(1, 2)), 2, []int{0, 1}}, {three(to(1, 1), to(0, 1), to(1, 2)), 2, []int{1, 2}},
	})
}

// lostOf is what Lost returns, or -1 if there is none.
type lostOf struct {
	b    api.WatchBook
	want int
}

func checkLost(t *testing.T, all []lostOf) {
	t.Helper()
	for i, x := range all {
		want, f := x.want, api.OK
		if want < 0 {
			want, f = 0, api.ErrNone
		}
		if m, e := watch.Lost(x.b); m != want || e != f {
			t.Errorf("Lost %d: %d, %d, not %d, %d", i, m, e, want, f)
		}
	}
}

// TestLost is of P9.8: the shoal surely is in no ground, and will be in none.
func TestLost(t *testing.T) {
	first := ground(0, square(0, 2, 1))
	checkLost(t, []lostOf{
		{swimming(), -1}, {narrow(ground(1, square(8, 1, 1))), -1}, {narrow(ground(0, square(14, 1, 1))), -1}, {book(ground(0, square(13, 1, 1)), ground(1, square(0, 6, 1))), 0},
		// from 27 on it is in 6 or 7, so 4 minutes before it can be in 2 and is in no ground of 0 and 1
		{row(first, within(30, 6, 7)), 26}, {row(first, within(27, 6, 7)), 23}, {row(first, within(26, 6, 7)), 22}, {row(first, within(25, 6, 7)), -1}, {row(first, within(30, 2, 7)), 30}, {row(first, within(30, 1, 7)), -1}, {row(first, within(0, 6, 7)), -1}, {row(first, swim(0), within(30, 6, 7)), 0}, {row(first, swim(3), within(30, 7, 7)), 29},
		// a ground that it can come to again, and another one
		{row(first, within(5, 6, 7), within(29, 6, 7)), 25}, {row(stations(2), first, ground(1, square(3, 1, 1)), within(30, 6, 7)), 28}, {row(stations(2), first, ground(1, square(6, 1, 1)), within(30, 6, 7)), -1}, {row(stations(3), first, ground(1, square(3, 1, 1)), ground(2, square(2, 1, 1)), within(30, 6, 7)), 28},
		// land that it cannot swim across
		{row(land(2), first, within(0, 6, 7)), 0}, {row(land(2), swim(2), first, within(0, 6, 7)), -1},
	})
}
