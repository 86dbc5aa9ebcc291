package press_test

import (
	"slices"
	"testing"

	"huer/api"
	"huer/press"
)

// TestCheckValid is of P10.1: each limit, and what it includes.
func TestCheckValid(t *testing.T) {
	six := []api.PressBail{bail(0, 0, 400), bail(1, 0, none), bail(0, 3, 0), bail(1, 9, 1), bail(0, 9, none), bail(2, 9, none)}
	for i, b := range []api.PressBook{
		book(), measured(), low(), book(bails()), book(bails(six...), pits(1, 2, 3)),
		// lots: none, four, and such as have hogsheads that are 6 apart
		book(cellar(casks(0)), runs()), book(cellar(casks(0, 1, 2, 3, 4)), runs(run(0, 0), run(1, 9), run(0, 9), run(1, 0))), book(cellar(casks(3, 3, 40))), book(cellar(casks(9, 0)), runs(run(0, 0)), func(b *api.PressBook) { b.Bulk.Error[2] = 6 }),
		book(cellar(carried(27)), runs(run(1, 3))),
		// gives
		book(gives(to(0, 0))), book(gives(to(9, 9))), book(gives(to(0, 3))), book(gives(to(6, 9))), book(gives(to(1, 1), to(0, 0), to(3, 5), to(2, 2))),
		// runs, pits and bails
		book(runs(run(1, 0), run(0, 9))), book(pits(0, 400)), book(pits(30)), book(pits(400, 400, 0), bails(bail(2, 9, 400))),
		book(bails(bail(0, 0, none))), book(bails(bail(1, 9, 0))), book(bails(bail(1, 4, 3), bail(0, 4, 3))), book(bails(bail(0, 4, 3), bail(0, 5, 3))),
	} {
		if e := press.Check(b); e != api.OK {
			t.Errorf("Check of the valid book %d: %d", i, e)
		}
	}
}

// wrongBooks are books that are not valid, each by one thing.
func wrongBooks() []api.PressBook {
	torn, bad, wide := casks(1, 4, 6), casks(1, 4, 6), carried(40, 40)
	torn.Lots[1].Told[api.BulkBarrow] = 30
	bad.Holds[0].High = 10
	wide.Holds[api.BulkCask] = to(4, 6)
	untold := casks(1, 4, 6)
	untold.Lots[0].Told[api.BulkCask] = none
	return []api.PressBook{
		{}, book(cellar(bad)), book(cellar(torn)), book(cellar(api.BulkBook{}), runs()),
		// hogsheads that are 7 and more apart
		book(cellar(wide)), book(cellar(untold)), book(cellar(casks(4, 4, 6))), book(cellar(casks(9, 0, 0))), book(cellar(casks(7, 0)), runs(run(0, 0))),
		book(cellar(casks(1, 4, 6, 4, 6, 1)), runs(slices.Repeat([]api.PressRun{run(0, 0)}, 5)...)),
		book(gives()), book(gives(slices.Repeat([]api.Span{just(1)}, 5)...)), book(give(0, -1, 2)), book(give(0, 0, 4)), book(give(1, 7, 10)), book(give(1, 10, 10)), book(give(0, 3, 2)), book(give(1, -1, -1)),
		book(runs()), book(runs(run(0, 0))), book(runs(run(0, 0), run(0, 1), run(0, 2))), book(runs(run(0, 0), run(2, 1))), book(runs(run(-1, 0), run(0, 1))), book(runs(run(0, 10), run(0, 1))), book(runs(run(0, 0), run(0, -1))),
		book(pits()), book(pits(), runs(), bails(), cellar(casks(0))), book(pits(30, 20, 10, 0)), book(room(0, -1)), book(room(1, -1)), book(room(0, 401)), book(room(1, 401)),
		book(bails(bail(-1, 1, none))), book(bails(bail(2, 1, none))), book(bails(bail(0, -1, none))), book(bails(bail(0, 10, none))), book(told(0, -2)), book(told(0, 401)),
		book(bails(bail(0, 1, none), bail(0, 1, none))), book(bails(bail(0, 1, 28), bail(1, 1, 0), bail(0, 1, none))), book(bails(bail(0, 2, none), bail(1, 1, none))), book(bails(bail(0, 2, none), bail(1, 3, none), bail(1, 2, none))),
		book(pits(1, 2, 3), bails(bail(0, 1, none), bail(0, 2, none), bail(0, 3, none), bail(0, 4, none), bail(0, 5, none), bail(0, 6, none), bail(0, 7, none))),
	}
}

// TestCheckWrong is of P10.1: all functions return the error of a wrong book first, whatever is asked.
func TestCheckWrong(t *testing.T) {
	for i, b := range wrongBooks() {
		for _, asked := range [][4]int{{0, 0, 0, 0}, {1, 1, 9, 400}, {-1, -1, -1, -1}, {4, 3, 10, 401}} {
			for f, e := range errorsOf(results(b, asked[0], asked[1], asked[2], asked[3])) {
				if e != api.ErrPress {
					t.Errorf("the wrong book %d, the function %d, asked %v: %d", i, f, asked, e)
				}
			}
		}
	}
}

// TestAsk is of P10.2 to P10.6: the error of a wrong question, before that of a book that cannot be true, or without an answer.
func TestAsk(t *testing.T) {
	const ok, ask, not, no = api.OK, api.ErrPressAsk, api.ErrPressFalse, api.ErrNone
	for i, x := range []struct {
		b     api.PressBook
		asked [4]int // the lot, the pit, the day and the gallons
		want  []api.Errno
	}{
		{book(), [4]int{0, 0, 0, 0}, []api.Errno{ok, ok, ok, ok, ok, ok, ok, ok, ok}}, {book(), [4]int{1, 1, 9, 400}, []api.Errno{ok, ok, ok, ok, ok, ok, ok, no, ok}},
		{book(), [4]int{2, 0, 0, 0}, []api.Errno{ok, ok, ask, ask, ok, ok, ok, ok, ok}}, {book(), [4]int{-1, 0, 0, 0}, []api.Errno{ok, ok, ask, ask, ok, ok, ok, ok, ok}},
		{book(), [4]int{0, 2, 0, 0}, []api.Errno{ok, ok, ok, ok, ask, ask, ask, ask, ok}}, {book(), [4]int{0, -1, 0, 0}, []api.Errno{ok, ok, ok, ok, ask, ask, ask, ask, ok}},
		{book(), [4]int{0, 0, 10, 0}, []api.Errno{ok, ok, ok, ok, ask, ask, ask, ok, ok}}, {book(), [4]int{0, 1, -1, 0}, []api.Errno{ok, ok, ok, ok, ask, ask, ask, no, ok}},
		{book(), [4]int{0, 0, 0, 401}, []api.Errno{ok, ok, ok, ok, ok, ask, ok, ok, ok}}, {book(), [4]int{0, 0, 0, -1}, []api.Errno{ok, ok, ok, ok, ok, ask, ok, ok, ok}},
		{book(cellar(casks(0)), runs()), [4]int{0, 0, 0, 0}, []api.Errno{ok, ok, ask, ask, ok, ok, ok, no, ok}},
		{low(), [4]int{0, 0, 0, 0}, []api.Errno{ok, ok, not, not, not, not, not, not, ok}}, {low(), [4]int{2, 1, 9, 401}, []api.Errno{ok, ok, ask, ask, not, ask, not, not, ok}}, {low(), [4]int{1, 2, 5, 5}, []api.Errno{ok, ok, not, not, ask, ask, ask, ask, ok}}, {low(), [4]int{1, 1, 10, 5}, []api.Errno{ok, ok, not, not, ask, ask, ask, not, ok}}, {low(), [4]int{-1, -1, -1, -1}, []api.Errno{ok, ok, ask, ask, ask, ask, ask, ask, ok}},
	} {
		l := results(x.b, x.asked[0], x.asked[1], x.asked[2], x.asked[3])
		if list := errorsOf(l); !slices.Equal(list, x.want) {
			t.Errorf("the errors %d: %v, not %v", i, list, x.want)
		}
	}
}

// TestExamples is of P10.1 to P10.7: the chapter's examples, and that of DOC.md on a pit into which 27 to 58 gallons run.
func TestExamples(t *testing.T) {
	for i, x := range []struct {
		b            api.PressBook
		lot          int
		casks, yield api.Span
	}{
		{book(), 0, to(3, 5), to(12, 30)}, {book(), 1, to(5, 7), to(20, 42)}, {measured(), 0, just(3), to(12, 18)}, {measured(), 1, just(5), to(20, 30)},
	} {
		if s, e := press.Casks(x.b, x.lot); s != x.casks || e != api.OK {
			t.Errorf("Casks %d: %v, %d", i, s, e)
		}
		if s, e := press.Yield(x.b, x.lot); s != x.yield || e != api.OK {
			t.Errorf("Yield %d: %v, %d", i, s, e)
		}
	}
	for i, x := range []struct {
		b     api.PressBook
		day   int
		want  api.Span
		spill int
	}{
		{book(), 0, to(9, 20), 0}, {book(), 1, to(27, 30), 1}, {book(), 2, to(5, 14), 0}, {book(), 9, to(5, 14), 0}, {measured(), 0, to(9, 10), 0}, {measured(), 1, just(28), 0}, {measured(), 2, to(5, 10), 0},
	} {
		if s, e := press.Pit(x.b, 0, x.day); s != x.want || e != api.OK {
			t.Errorf("Pit %d: %v, %d", i, s, e)
		}
		if n, e := press.Spill(x.b, 0, x.day); n != x.spill || e != api.OK {
			t.Errorf("Spill %d: %d, %d", i, n, e)
		}
	}
	for i, x := range []struct {
		b    api.PressBook
		pit  int
		want int
		e    api.Errno
	}{{book(), 0, 1, api.OK}, {book(), 1, 0, api.ErrNone}, {measured(), 0, 0, api.ErrNone}} {
		if n, e := press.Over(x.b, x.pit); n != x.want || e != x.e {
			t.Errorf("Over %d: %d, %d", i, n, e)
		}
	}
	for gallons, want := range map[int]bool{8: false, 9: true, 10: true, 11: false} {
		if is, e := press.Can(measured(), 0, 0, gallons); is != want || e != api.OK {
			t.Errorf("Can of %d: %v, %d", gallons, is, e)
		}
	}
	for i, x := range []struct {
		b    api.PressBook
		want []int
	}{{book(), nil}, {measured(), nil}, {low(), []int{0}}} {
		if l, e := press.Wrong(x.b); !slices.Equal(l, x.want) || e != api.OK {
			t.Errorf("Wrong %d: %v, %d", i, l, e)
		}
		if is, e := press.Right(x.b); is != (len(x.want) == 0) || e != api.OK {
			t.Errorf("Right %d: %v, %d", i, is, e)
		}
	}
}

// TestOnePit is of P10.3 and P10.5: what is in a single pit, day by day, and whether it runs over. (The spills that are not told are 0.)
func TestOnePit(t *testing.T) {
	four := stream(just(1), just(2), just(3), just(4))
	for i, x := range []struct {
		b      api.PressBook
		want   []api.Span
		spills []int
	}{
		// what is pressed comes together, until the Gives end
		{plain(2, 100, four), []api.Span{just(2), just(6), just(12), just(20), just(20)}, nil}, {plain(2, 100, stream(to(0, 1), just(0), to(2, 5))), []api.Span{to(0, 2), to(0, 2), to(4, 12), to(4, 12)}, nil}, {plain(0, 100, four), []api.Span{just(0), just(0)}, nil},
		// a bail empties the pit, for the next day
		{plain(2, 100, four, bail(0, 1, none)), []api.Span{just(2), just(6), just(6), just(14), just(14)}, nil}, {plain(2, 100, four, bail(0, 0, none), bail(0, 1, none), bail(0, 4, none)), []api.Span{just(2), just(4), just(6), just(14), just(14), just(0)}, nil}, {plain(2, 100, stream(to(1, 3)), bail(0, 3, none)), []api.Span{to(2, 6), to(2, 6), to(2, 6), to(2, 6), just(0)}, nil},
		// a pit has its room at most: just as much does not run over
		{plain(2, 6, four), []api.Span{just(2), just(6), just(6), just(6), just(6)}, []int{0, 0, 2, 2, 0}}, {plain(2, 5, four), []api.Span{just(2), just(5), just(5), just(5), just(5)}, []int{0, 2, 2, 2, 0}}, {plain(2, 5, four, bail(0, 1, none)), []api.Span{just(2), just(5), just(5), just(5)}, []int{0, 2, 2, 2, 0}}, {plain(2, 5, four, bail(0, 1, none), bail(0, 2, none)), []api.Span{just(2), just(5), just(5), just(5)}, []int{0, 2, 2, 2, 0}}, {plain(2, 0, four), []api.Span{just(0), just(0)}, []int{2, 2, 2, 2, 0}},
		{plain(2, 6, stream(to(2, 3), to(1, 2))), []api.Span{to(4, 6), just(6), just(6)}, []int{0, 1, 0}}, {plain(2, 5, stream(to(2, 3), to(1, 2))), []api.Span{to(4, 5), just(5), just(5)}, []int{1, 2, 0}},
		// a full pit does not run over if nothing runs into it
		{plain(2, 4, stream(just(2), just(0), just(1))), []api.Span{just(4), just(4), just(4), just(4)}, []int{0, 0, 2, 0}}, {plain(2, 3, stream(just(2), just(0), to(0, 1))), []api.Span{just(3), just(3), just(3)}, []int{2, 0, 1, 0}}, {plain(0, 0, four), []api.Span{just(0)}, []int{0, 0, 0, 0}}, {plain(1, 0, stream(to(0, 1))), []api.Span{just(0)}, []int{1, 0}},
		// a measure tells of the days before it, up to the bail before
		{plain(2, 100, stream(to(1, 2), to(1, 2), to(1, 2)), bail(0, 2, 7)), []api.Span{to(2, 3), to(4, 5), just(7), just(0)}, nil}, {plain(2, 100, stream(to(1, 2), to(1, 2), to(1, 2)), bail(0, 2, 11)), []api.Span{to(3, 4), to(7, 8), just(11), just(0)}, nil}, {plain(2, 100, stream(to(1, 2), to(1, 2), to(1, 2)), bail(0, 0, none), bail(0, 2, 7)), []api.Span{to(2, 4), to(3, 4), just(7), just(0)}, nil}, {plain(2, 100, stream(to(1, 2), to(1, 2), to(1, 2)), bail(0, 0, 4), bail(0, 2, none)), []api.Span{just(4), to(2, 4), to(4, 8), just(0)}, nil},
		{plain(2, 100, stream(to(1, 2), to(1, 2)), bail(0, 9, 5)), []api.Span{to(2, 3), just(5), just(5), just(5), just(5), just(5), just(5), just(5), just(5), just(5)}, nil},
		// and that it did not run over, or was full
		{plain(2, 7, stream(to(1, 3), to(1, 3)), bail(0, 1, 6)), []api.Span{to(2, 4), just(6), just(0)}, nil}, {plain(2, 7, stream(to(1, 3), to(1, 3)), bail(0, 1, 7)), []api.Span{to(2, 6), just(7), just(0)}, []int{0, 1}}, {plain(2, 11, stream(to(1, 3), to(1, 3)), bail(0, 1, 11)), []api.Span{to(5, 6), just(11), just(0)}, []int{0, 1}}, {plain(2, 12, stream(to(1, 3), to(1, 3)), bail(0, 1, 12)), []api.Span{just(6), just(12), just(0)}, nil}, {plain(2, 3, stream(to(1, 3), to(1, 3)), bail(0, 1, 3)), []api.Span{to(2, 3), just(3), just(0)}, []int{1, 2}}, {plain(2, 3, stream(to(1, 3), to(0, 3)), bail(0, 1, 3)), []api.Span{to(2, 3), just(3), just(0)}, []int{1, 1}},
	} {
		for day := range days {
			want, spill := x.want[min(day, len(x.want)-1)], 0
			if day < len(x.spills) {
				spill = x.spills[day]
			}
			if s, e := press.Pit(x.b, 0, day); s != want || e != api.OK {
				t.Errorf("Pit %d on %d: %v, %d, not %v", i, day, s, e, want)
			}
			if n, e := press.Spill(x.b, 0, day); n != spill || e != api.OK {
				t.Errorf("Spill %d on %d: %d, %d, not %d", i, day, n, e, spill)
			}
		}
	}
}

// TestRuns is of P10.2 and P10.3: which lots run into which pits, and on which days.
func TestRuns(t *testing.T) {
	b := api.PressBook{Bulk: casks(0, 1, 2, 3), Gives: stream(just(1), just(2)), Runs: []api.PressRun{run(2, 8), run(0, 9), run(2, 7)}, Pits: []int{99, 99, 99}}
	for pit, want := range [][]int{{0, 0, 0, 0, 0, 0, 0, 0, 0, 2}, {0, 0, 0, 0, 0, 0, 0, 0, 0, 0}, {0, 0, 0, 0, 0, 0, 0, 3, 10, 12}} {
		for day, gallons := range want {
			if s, e := press.Pit(b, pit, day); s != just(gallons) || e != api.OK {
				t.Errorf("Pit %d on %d: %v, %d, not %d", pit, day, s, e, gallons)
			}
		}
	}
	// what is given on days that there are not is no oil
	for lot, want := range []int{3, 2, 9} {
		if s, e := press.Yield(b, lot); s != just(want) || e != api.OK {
			t.Errorf("Yield of %d: %v, %d, not %d", lot, s, e, want)
		}
	}
	for i, x := range []struct {
		day  int
		want api.Span
	}{{0, to(18, 56)}, {6, to(18, 56)}, {7, to(18, 48)}, {8, to(14, 32)}, {9, to(8, 20)}} {
		b := with(plain(3, 99, stream(to(4, 5), to(3, 3), to(2, 4), to(0, 2))), cellar(casks(1, 3)), runs(run(0, x.day)))
		if s, e := press.Yield(b, 0); s != x.want || e != api.OK {
			t.Errorf("Yield %d: %v, %d", i, s, e)
		}
	}
}

// TestKnown is of P10.2 to P10.4: what measures tell of the hogsheads of all lots.
func TestKnown(t *testing.T) {
	three := func(bails ...api.PressBail) api.PressBook {
		return with(plain(3, 99, stream(just(3)), bails...), cellar(casks(1, 3)))
	}
	// two lots give together
	both := func(bails ...api.PressBail) api.PressBook {
		return with(three(bails...), cellar(casks(1, 3, 5)), runs(run(0, 0), run(0, 0)))
	}
	// each by itself
	apart := func(bails ...api.PressBail) api.PressBook {
		return with(both(bails...), runs(run(0, 0), run(1, 1)), pits(99, 99))
	}
	for i, x := range []struct {
		b    api.PressBook
		want []api.Span
	}{
		{three(), []api.Span{to(2, 4)}}, {three(bail(0, 0, 9)), []api.Span{just(3)}}, {three(bail(0, 5, 12)), []api.Span{just(4)}}, {with(three(bail(0, 0, 9)), pits(9)), []api.Span{to(3, 4)}}, {with(three(bail(0, 0, 6)), pits(6)), []api.Span{to(2, 4)}}, {with(three(bail(0, 0, 9)), give(0, 3, 4)), []api.Span{just(3)}}, {with(three(bail(0, 0, 8)), give(0, 2, 4)), []api.Span{to(2, 4)}}, {with(three(bail(0, 0, 7)), give(0, 2, 4)), []api.Span{to(2, 3)}},
		{both(), []api.Span{to(2, 4), to(4, 6)}}, {both(bail(0, 0, 24)), []api.Span{to(2, 4), to(4, 6)}}, {both(bail(0, 0, 18)), []api.Span{just(2), just(4)}}, {both(bail(0, 0, 21)), []api.Span{to(2, 3), to(4, 5)}}, {both(bail(0, 0, 27)), []api.Span{to(3, 4), to(5, 6)}}, {with(both(bail(0, 0, 27)), pits(27)), []api.Span{to(3, 4), to(5, 6)}}, {with(both(bail(0, 0, 24)), pits(24)), []api.Span{to(2, 4), to(4, 6)}},
		{apart(bail(0, 0, 9)), []api.Span{just(3), to(4, 6)}}, {apart(bail(1, 3, 18)), []api.Span{to(2, 4), just(6)}}, {apart(bail(0, 0, 12), bail(1, 1, 12)), []api.Span{just(4), just(4)}}, {with(apart(bail(0, 0, 12)), runs(run(0, 0), run(0, 1))), []api.Span{just(4), to(4, 6)}}, {with(apart(bail(0, 0, none), bail(0, 1, 15)), runs(run(0, 0), run(0, 1))), []api.Span{to(2, 4), just(5)}}, {with(apart(bail(0, 0, 6), bail(0, 1, 15)), runs(run(0, 0), run(0, 1))), []api.Span{just(2), just(5)}},
		{with(both(bail(0, 0, 0)), give(0, 0, 0)), []api.Span{to(2, 4), to(4, 6)}}, {with(both(bail(0, 0, 0)), cellar(casks(1, 0, 1))), []api.Span{just(0), just(0)}},
		// bulk tells of them, too
		{with(three(bail(0, 0, 9)), cellar(carried(4))), []api.Span{just(3)}}, {with(three(), cellar(carried(4))), []api.Span{to(3, 4)}},
	} {
		for lot, want := range x.want {
			if s, e := press.Casks(x.b, lot); s != want || e != api.OK {
				t.Errorf("Casks %d of the lot %d: %v, %d, not %v", i, lot, s, e, want)
			}
		}
	}
	// between what two numbers of hogsheads give nothing can be, and what they leave by measures
	for i, x := range []struct {
		b    api.PressBook
		pit  int
		want []int
	}{
		{three(), 0, []int{6, 9, 12}}, {with(three(), pits(10)), 0, []int{6, 9, 10}}, {with(three(), give(0, 3, 4)), 0, []int{6, 7, 8, 9, 10, 11, 12, 13, 14, 15, 16}}, {three(bail(0, 1, 9)), 0, []int{9}}, {with(three(bail(0, 1, 9)), pits(9)), 0, []int{9}}, {with(three(bail(0, 1, 9)), pits(10)), 0, []int{9}}, {both(bail(0, 0, 21)), 0, []int{21}},
		// on the day 0 the pit has what leaves enough for the measure of the next one
		{with(three(bail(0, 1, 20)), gives(just(3), to(2, 4))), 0, []int{9, 12}}, {with(three(bail(0, 1, 12)), gives(just(3), to(2, 4))), 0, []int{6}}, {with(three(bail(0, 1, 19)), gives(to(3, 4), to(2, 4))), 0, []int{9, 10, 11, 12}}, {with(three(bail(0, 1, 400)), pits(400), gives(to(3, 4))), 0, nil},
		// what was measured later, or of another pit, tells of the hogsheads of all days
		{with(three(bail(0, 0, none), bail(0, 1, 6)), gives(just(3), just(2))), 0, []int{9}}, {with(three(bail(0, 0, none), bail(0, 1, 7)), gives(just(3), to(2, 3))), 0, []int{9}}, {apart(bail(1, 1, 12)), 0, []int{6, 9, 12}}, {with(both(bail(0, 0, none), bail(0, 1, 15)), gives(to(1, 2), just(3)), runs(run(0, 0), run(0, 1))), 0, []int{2, 3, 4, 5, 6}},
	} {
		var list []int
		for gallons := range api.PressRoom + 1 {
			if is, _ := press.Can(x.b, x.pit, 0, gallons); is {
				list = append(list, gallons)
			}
		}
		if !slices.Equal(list, x.want) {
			t.Errorf("Can %d: %v, not %v", i, list, x.want)
		}
	}
}

// TestSpill is of P10.5 and P10.6: when pits run over if the hogsheads are not known. (-1 stands for ErrNone.)
func TestSpill(t *testing.T) {
	three := func(room int, bails ...api.PressBail) api.PressBook {
		return with(plain(3, room, stream(just(3), just(0), to(0, 1)), bails...), cellar(casks(1, 3)))
	}
	for i, x := range []struct {
		b      api.PressBook
		spills []int
		over   int
	}{
		{three(5), []int{2, 0, 1, 0}, 0}, {three(6), []int{1, 0, 1, 0}, 0}, {three(11), []int{1, 0, 1, 0}, 0}, {three(12), []int{0, 0, 1, 0}, 2}, {three(15), []int{0, 0, 1, 0}, 2}, {three(16), []int{0, 0, 0, 0}, -1}, {three(0, bail(0, 0, none)), []int{2, 0, 1, 0}, 0}, {three(5, bail(0, 1, none)), []int{2, 0, 0, 0}, 0}, {three(3, bail(0, 1, none)), []int{2, 0, 1, 0}, 0}, {three(12, bail(0, 1, none)), []int{0, 0, 0, 0}, -1},
		// measures tell how many hogsheads there are, and whether something ran over
		{three(6, bail(0, 0, 6)), []int{1, 0, 0, 0}, 0}, {three(8, bail(0, 0, 6)), []int{0, 0, 0, 0}, -1}, {three(8, bail(0, 0, 8)), []int{2, 0, 0, 0}, 0}, {three(11, bail(0, 1, 11)), []int{2, 0, 0, 0}, 0}, {three(9, bail(0, 1, 9)), []int{1, 0, 0, 0}, 0}, {three(11, bail(0, 2, 9)), []int{0, 0, 0, 0}, -1}, {three(11, bail(0, 2, 11)), []int{1, 0, 1, 0}, 0}, {three(13, bail(0, 2, 13)), []int{0, 0, 1, 0}, 2}, {three(13, bail(0, 2, none)), []int{0, 0, 1, 0}, 2}, {with(three(11, bail(0, 0, none), bail(0, 1, 6)), gives(just(3), just(2))), []int{0, 0, 0}, -1}, {with(three(11, bail(0, 0, none), bail(0, 1, 8)), gives(just(3), just(2))), []int{2, 0, 0}, 0},
		// no hogsheads, no oil
		{with(three(0), cellar(casks(0, 0))), []int{0, 0, 0, 0}, -1}, {with(three(0), cellar(casks(1, 0))), []int{1, 0, 1, 0}, 0},
	} {
		for day, want := range x.spills {
			if n, e := press.Spill(x.b, 0, day); n != want || e != api.OK {
				t.Errorf("Spill %d on %d: %d, %d, not %d", i, day, n, e, want)
			}
		}
		want, f := x.over, api.OK
		if want < 0 {
			want, f = 0, api.ErrNone
		}
		if n, e := press.Over(x.b, 0); n != want || e != f {
			t.Errorf("Over %d: %d, %d", i, n, e)
		}
	}
}

// TestWrong is of P10.1 and P10.7: Wrong, and Right, which is so just if it is empty.
func TestWrong(t *testing.T) {
	two := stream(just(1), just(2)) // of 2 hogsheads: 2 and 4 gallons
	loose := func(bails ...api.PressBail) api.PressBook {
		return with(plain(2, 99, two, bails...), cellar(casks(1, 2)))
	}
	for i, x := range []struct {
		b    api.PressBook
		want []int
	}{
		{plain(2, 99, two), nil}, {plain(2, 99, two, bail(0, 0, 2), bail(0, 1, 4), bail(0, 2, 0)), nil}, {plain(2, 99, two, bail(0, 0, 3), bail(0, 1, 4), bail(0, 2, 0)), []int{0}}, {plain(2, 99, two, bail(0, 0, 3), bail(0, 1, 4), bail(0, 2, 1)), []int{0, 2}}, {plain(2, 99, two, bail(0, 0, none), bail(0, 1, 5)), []int{1}},
		// more than the room cannot be; as much can
		{plain(2, 3, two, bail(0, 1, 3)), nil}, {plain(2, 3, two, bail(0, 1, 4)), []int{0}}, {plain(2, 3, two, bail(0, 1, 6)), []int{0}}, {plain(2, 3, two, bail(0, 1, 2)), []int{0}}, {plain(2, 6, two, bail(0, 1, 6)), nil}, {plain(2, 7, two, bail(0, 1, 7)), []int{0}}, {plain(2, 0, two, bail(0, 1, 0)), nil}, {plain(2, 0, two, bail(0, 1, 1)), []int{0}}, {plain(0, 0, two, bail(0, 1, 0)), nil},
		// a bail whose measure is false bails all the same
		{plain(2, 99, two, bail(0, 0, 5), bail(0, 1, 6)), []int{0, 1}}, {plain(2, 99, two, bail(0, 0, 5), bail(0, 1, 4)), []int{0}},
		// which of several are false: the fewest, and of these the first ones
		{loose(bail(0, 0, 1), bail(0, 1, 2)), nil}, {loose(bail(0, 0, 1), bail(0, 1, 4)), []int{0}}, {loose(bail(0, 0, 4), bail(0, 1, 4)), []int{0}}, {loose(bail(0, 0, 3), bail(0, 1, 5)), []int{1}}, {loose(bail(0, 0, 3), bail(0, 1, 2), bail(0, 2, 0)), []int{0}}, {loose(bail(0, 0, 3), bail(0, 1, 2), bail(0, 2, 1)), []int{0, 2}}, {loose(bail(0, 0, 4), bail(0, 1, 5), bail(0, 2, 1)), []int{0, 1, 2}}, {with(loose(bail(0, 0, 1), bail(0, 1, 2), bail(0, 2, 9)), gives(just(1), just(2), just(3))), []int{2}}, {with(loose(bail(0, 0, 1), bail(0, 1, 4), bail(0, 2, 6)), gives(just(1), just(2), just(3))), []int{0}}, {with(loose(bail(0, 0, 1), bail(0, 1, 4), bail(0, 2, 9)), gives(just(1), just(2), just(3))), []int{0, 1}},
		// several pits
		{with(plain(2, 99, two, bail(0, 0, 2), bail(1, 0, 0), bail(1, 1, 1), bail(0, 1, 3)), pits(99, 50)), []int{2, 3}}, {with(plain(2, 99, two, bail(1, 3, 50)), pits(99, 50)), []int{0}}, {with(plain(2, 99, two, bail(1, 3, 0)), pits(99, 0)), nil}, {with(loose(bail(0, 0, 1), bail(1, 0, 3), bail(1, 1, 6)), cellar(casks(1, 2, 2)), runs(run(0, 0), run(1, 0)), pits(99, 50)), nil}, {with(loose(bail(0, 0, 1), bail(1, 0, 3), bail(1, 1, 4)), cellar(casks(1, 2, 2)), runs(run(0, 0), run(1, 0)), pits(99, 50)), []int{1}},
		// none of the bails can be right
		{plain(1, 400, two, bail(0, 0, 400), bail(0, 1, 400), bail(0, 2, 400), bail(0, 3, 400), bail(0, 4, 400), bail(0, 5, 400)), []int{0, 1, 2, 3, 4, 5}},
	} {
		if l, e := press.Wrong(x.b); !slices.Equal(l, x.want) || e != api.OK {
			t.Errorf("Wrong %d: %v, %d, not %v", i, l, e, x.want)
		}
		if is, e := press.Right(x.b); is != (len(x.want) == 0) || e != api.OK {
			t.Errorf("Right %d: %v, %d", i, is, e)
		}
	}
}
