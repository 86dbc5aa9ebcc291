package salt_test

import (
	"slices"
	"testing"

	"huer/api"
	"huer/salt"
)

// TestCheckValid is of P6.1: each limit, and what it includes.
func TestCheckValid(t *testing.T) {
	six := slices.Repeat([]api.SaltDay{day(200, cellar(), 1400)}, 6)
	for i, b := range []api.SaltBook{
		book(), counted(), short(), much(), book(days(six...)), book(days(six[:1]...)),
		book(start(0, 0)), book(start(0, 20)), book(start(200, 200)), book(start(180, 200)),
		book(takes(1, 1)), book(takes(1, 4)), book(takes(6, 9)), book(takes(9, 9)),
		book(draw(0, 0)), book(draw(1, 200)), book(left(0, none)), book(left(0, 0)), book(left(1, 1400)),
		// no lots, and hogsheads that are 12 apart
		book(cured(0, casks(0))), book(cured(0, casks(6, 6))), book(cured(1, casks(3, 40, 40))), book(cured(1, casks(9, 3))),
	} {
		if e := salt.Check(b); e != api.OK {
			t.Errorf("Check of the valid book %d: %d", i, e)
		}
	}
}

// wrongBooks are books that are not valid, each by one thing.
func wrongBooks() []api.SaltBook {
	torn := cellar()
	torn.Lots[1].Told[api.BulkBarrow] = 30
	bad := cellar()
	bad.Holds[0].High = 10
	seven := slices.Repeat([]api.SaltDay{day(0, cellar(), none)}, 7)
	return []api.SaltBook{
		{}, book(days()), book(days(seven...)),
		book(start(-1, 5)), book(start(0, 21)), book(start(190, 201)), book(start(201, 201)), book(start(5, 4)), book(start(-1, -1)),
		book(takes(0, 3)), book(takes(2, 6)), book(takes(8, 10)), book(takes(10, 10)), book(takes(3, 2)), book(takes(0, 0)),
		book(draw(0, -1)), book(draw(0, 201)), book(draw(1, 201)), book(left(0, -2)), book(left(0, 1401)), book(left(1, 1401)),
		// bulks that are not valid, cannot be true, or have hogsheads that are 13 and more apart
		book(cured(0, bad)), book(cured(1, bad)), book(cured(0, torn)), book(cured(1, torn)), book(cured(1, api.BulkBook{})),
		book(cured(0, casks(9, 4))), book(cured(1, casks(7, 7))), book(cured(0, casks(0, api.BulkNone))), book(cured(1, casks(4, 40, 40))),
	}
}

// TestCheckWrong is of P6.1: all functions return the error of a wrong book first, whatever is asked.
func TestCheckWrong(t *testing.T) {
	for i, b := range wrongBooks() {
		for _, asked := range [][2]int{{0, 0}, {1, 99}, {-1, -1}, {6, 100}} {
			for f, e := range errorsOf(results(b, asked[0], asked[1])) {
				if e != api.ErrSalt {
					t.Errorf("the wrong book %d, the function %d, asked %v: %d", i, f, asked, e)
				}
			}
		}
	}
}

// TestAsk is of P6.2 to P6.7: the error of a wrong question, before that of a book that cannot be true, or without an answer.
func TestAsk(t *testing.T) {
	const ok, ask, not, no = api.OK, api.ErrSaltAsk, api.ErrSaltFalse, api.ErrNone
	dry := plain(just(0), just(1), day(0, casks(0, 1), none))
	for i, x := range []struct {
		b         api.SaltBook
		day, rate int
		want      []api.Errno
	}{
		{book(), 0, 0, []api.Errno{ok, ok, ok, ok, ok, ok, ok, ok, ok}}, {book(), 1, 99, []api.Errno{ok, ok, ok, ok, ok, ok, no, ok, ok}}, {much(), 1, 5, []api.Errno{ok, ok, ok, ok, ok, no, ok, ok, ok}},
		{book(), 2, 5, []api.Errno{ok, ok, ask, ask, ok, ok, ask, ok, ok}}, {book(), -1, 5, []api.Errno{ok, ok, ask, ask, ok, ok, ask, ok, ok}}, {book(), 0, 100, []api.Errno{ok, ok, ok, ok, ask, ok, ok, ok, ok}}, {book(), 0, -1, []api.Errno{ok, ok, ok, ok, ask, ok, ok, ok, ok}},
		{short(), 0, 5, []api.Errno{ok, ok, not, not, not, ok, ok, ok, ok}}, {short(), 2, 5, []api.Errno{ok, ok, ask, ask, not, ok, ask, ok, ok}}, {short(), 1, 100, []api.Errno{ok, ok, not, not, ask, ok, no, ok, ok}}, {short(), -1, -1, []api.Errno{ok, ok, ask, ask, ask, ok, ask, ok, ok}},
		{dry, 0, 0, []api.Errno{ok, ok, not, not, not, ok, ok, no, no}}, {dry, 1, 100, []api.Errno{ok, ok, ask, ask, ask, ok, ask, no, no}},
	} {
		if list := errorsOf(results(x.b, x.day, x.rate)); !slices.Equal(list, x.want) {
			t.Errorf("the errors %d: %v, not %v", i, list, x.want)
		}
	}
}

// TestExamples is of P6.1 to P6.7: the chapter's examples, and that of DOC.md on 18 hogsheads.
func TestExamples(t *testing.T) {
	for i, x := range []struct {
		b          api.SaltBook
		day        int
		left, used api.Span
	}{
		{book(), 0, to(0, 16), to(36, 52)}, {book(), 1, to(5, 30), to(6, 15)}, {counted(), 0, to(11, 16), to(36, 41)}, {counted(), 1, just(25), to(6, 11)}, {much(), 0, to(6, 26), to(36, 54)},
	} {
		if l, e := salt.Left(x.b, x.day); l != x.left || e != api.OK {
			t.Errorf("Left %d: %v, %d", i, l, e)
		}
		if u, e := salt.Used(x.b, x.day); u != x.used || e != api.OK {
			t.Errorf("Used %d: %v, %d", i, u, e)
		}
	}
	for i, x := range []struct {
		got, want []any
	}{
		{results(book(), 0, 5), []any{api.OK, true, api.OK, to(0, 16), api.OK, to(36, 52), api.OK, to(25, 150), api.OK, 0, api.OK, 4, api.OK, 0, api.OK}},
		{results(counted(), 1, 5), []any{api.OK, true, api.OK, just(25), api.OK, to(6, 11), api.OK, just(125), api.OK, 0, api.OK, 0, api.ErrNone, 0, api.OK}},
		{results(much(), 1, 5), []any{api.OK, true, api.OK, to(11, 40), api.OK, to(6, 15), api.OK, to(55, 200), api.OK, 0, api.ErrNone, 0, api.OK, 0, api.OK}},
		{results(short(), 0, 5), []any{api.OK, false, api.OK, api.Span{}, api.ErrSaltFalse, api.Span{}, api.ErrSaltFalse, api.Span{}, api.ErrSaltFalse, 0, api.OK, 4, api.OK, 3, api.OK}},
	} {
		if !slices.Equal(x.got[:len(x.want)], x.want) {
			t.Errorf("the results %d: %v, not %v", i, x.got, x.want)
		}
	}
	for i, x := range []struct {
		b    api.SaltBook
		want []int
	}{{book(), nil}, {counted(), nil}, {much(), nil}, {short(), []int{1}}} {
		if l, e := salt.Wrong(x.b); !slices.Equal(l, x.want) || e != api.OK {
			t.Errorf("Wrong %d: %v, %d", i, l, e)
		}
	}
}

// TestOneDay is of P6.1 to P6.3: what is left and used on a day by itself.
func TestOneDay(t *testing.T) {
	for i, x := range []struct {
		b          api.SaltBook
		left, used api.Span
		e          api.Errno
	}{
		// nothing is cured
		{plain(to(3, 5), to(1, 4), day(7, casks(0, 0), none)), to(10, 12), just(0), api.OK}, {plain(to(3, 5), to(1, 4), day(7, casks(0), none)), to(10, 12), just(0), api.OK}, {plain(just(0), to(1, 4), day(0, casks(2, 0), none)), just(0), just(0), api.OK},
		// what is there, what is drawn, how many hogsheads there are and what they take are each known only between bounds
		{plain(to(20, 24), just(3), day(10, casks(0, 5), none)), to(15, 19), just(15), api.OK}, {plain(just(20), to(3, 4), day(10, casks(0, 5), none)), to(10, 15), to(15, 20), api.OK}, {plain(just(20), just(3), day(10, casks(1, 5), none)), to(12, 18), to(12, 18), api.OK}, {plain(to(20, 24), to(3, 4), day(10, casks(1, 5), none)), to(6, 22), to(12, 24), api.OK},
		// hogsheads of several lots
		{plain(just(20), just(1), day(0, casks(1, 5, 4), none)), to(9, 13), to(7, 11), api.OK},
		// no more can be used than there is
		{plain(just(10), to(1, 4), day(0, casks(6, 11), none)), to(0, 5), to(5, 10), api.OK}, {plain(to(4, 6), just(5), day(0, casks(0, 1), none)), to(0, 1), just(5), api.OK}, {plain(to(1, 4), just(5), day(0, casks(0, 1), none)), api.Span{}, api.Span{}, api.ErrSaltFalse}, {plain(just(0), just(9), day(200, casks(0, 22), none)), just(2), just(198), api.OK}, {plain(just(0), just(9), day(200, casks(0, 23), none)), api.Span{}, api.Span{}, api.ErrSaltFalse},
		// between what two numbers of hogsheads take nothing can be used
		{plain(to(20, 21), just(4), day(0, casks(1, 2), none)), to(8, 17), to(4, 12), api.OK}, {plain(to(20, 21), just(4), day(0, casks(1, 2), 9)), just(9), just(12), api.OK}, {plain(to(20, 21), just(4), day(0, casks(1, 2), 10)), api.Span{}, api.Span{}, api.ErrSaltFalse}, {plain(to(20, 21), just(4), day(0, casks(1, 2), 12)), just(12), just(8), api.OK},
		{plain(just(20), to(4, 5), day(0, casks(1, 2), 15)), just(15), just(5), api.OK}, {plain(just(20), to(4, 5), day(0, casks(1, 2), 14)), api.Span{}, api.Span{}, api.ErrSaltFalse}, {plain(just(20), to(4, 5), day(0, casks(1, 2), 13)), api.Span{}, api.Span{}, api.ErrSaltFalse}, {plain(just(20), to(4, 5), day(0, casks(1, 2), 12)), just(12), just(8), api.OK}, {plain(just(20), to(4, 5), day(0, casks(1, 2), 11)), just(11), just(9), api.OK},
		// a count, at both ends and beyond them
		{plain(to(20, 24), to(3, 4), day(10, casks(1, 5), 6)), just(6), just(24), api.OK}, {plain(to(20, 24), to(3, 4), day(10, casks(1, 5), 22)), just(22), just(12), api.OK}, {plain(to(20, 24), to(3, 4), day(10, casks(1, 5), 5)), api.Span{}, api.Span{}, api.ErrSaltFalse}, {plain(to(20, 24), to(3, 4), day(10, casks(1, 5), 23)), api.Span{}, api.Span{}, api.ErrSaltFalse}, {plain(to(20, 24), to(3, 4), day(10, casks(1, 5), 15)), just(15), to(15, 19), api.OK},
		{plain(just(6), just(3), day(0, casks(0, 2), 0)), just(0), just(6), api.OK}, {plain(just(7), just(3), day(0, casks(0, 2), 0)), api.Span{}, api.Span{}, api.ErrSaltFalse},
	} {
		if s, e := salt.Left(x.b, 0); s != x.left || e != x.e {
			t.Errorf("Left %d: %v, %d", i, s, e)
		}
		if s, e := salt.Used(x.b, 0); s != x.used || e != x.e {
			t.Errorf("Used %d: %v, %d", i, s, e)
		}
		if is, e := salt.Right(x.b); is != (x.e == api.OK) || e != api.OK {
			t.Errorf("Right %d: %v, %d", i, is, e)
		}
		for _, rate := range []int{0, 1, 7, 99} {
			if s, e := salt.Owes(x.b, rate); s != to(rate*x.left.Low, rate*x.left.High) || e != x.e {
				t.Errorf("Owes %d for %d: %v, %d", i, rate, s, e)
			}
		}
	}
}

// TestDays is of P6.2: what a day tells of another one, before it or behind it.
func TestDays(t *testing.T) {
	tight := plain(just(10), to(1, 3), day(0, casks(0, 3), none), day(0, casks(0, 4), none))
	coarse := plain(just(20), just(5), day(0, casks(1, 1), none), day(0, casks(1, 1), none))
	most := plain(just(200), to(1, 4), slices.Repeat([]api.SaltDay{day(200, casks(0), none)}, 6)...)
	for i, x := range []struct {
		b          api.SaltBook
		left, used []api.Span
	}{
		// a day leaves what the next one needs
		{tight, []api.Span{to(4, 7), to(0, 3)}, []api.Span{to(3, 6), to(4, 7)}}, {with(tight, draw(1, 1)), []api.Span{to(3, 7), to(0, 4)}, []api.Span{to(3, 7), to(4, 8)}}, {with(tight, draw(0, 1)), []api.Span{to(4, 8), to(0, 4)}, []api.Span{to(3, 7), to(4, 8)}}, {with(tight, start(7, 7)), []api.Span{just(4), just(0)}, []api.Span{just(3), just(4)}}, {with(tight, start(0, 7)), []api.Span{just(4), just(0)}, []api.Span{just(3), just(4)}},
		// a count of a day tells of both
		{with(tight, left(0, 5)), []api.Span{just(5), to(0, 1)}, []api.Span{just(5), to(4, 5)}}, {with(tight, left(1, 2)), []api.Span{to(6, 7), just(2)}, []api.Span{to(3, 4), to(4, 5)}}, {with(tight, left(1, 3)), []api.Span{just(7), just(3)}, []api.Span{just(3), just(4)}}, {with(tight, left(0, 5), left(1, 0)), []api.Span{just(5), just(0)}, []api.Span{just(5), just(5)}},
		// so many hogsheads as take just this
		{coarse, []api.Span{to(10, 20), to(0, 20)}, []api.Span{to(0, 10), to(0, 10)}}, {with(coarse, left(1, 15)), []api.Span{to(15, 20), just(15)}, []api.Span{to(0, 5), to(0, 5)}}, {with(coarse, left(1, 0)), []api.Span{just(10), just(0)}, []api.Span{just(10), just(10)}}, {with(coarse, start(20, 24), left(1, 3)), []api.Span{just(13), just(3)}, []api.Span{just(10), just(10)}},
		// as much as there can be at all
		{most, []api.Span{just(400), just(600), just(800), just(1000), just(1200), just(1400)}, slices.Repeat([]api.Span{just(0)}, 6)}, {with(most, left(5, 1400), left(0, 400)), []api.Span{just(400), just(600), just(800), just(1000), just(1200), just(1400)}, slices.Repeat([]api.Span{just(0)}, 6)},
	} {
		want := sight{left: x.left, used: x.used}
		if s, e := seen(x.b); !s.same(want) || e != api.OK {
			t.Errorf("the days %d: %v, %d, not %v", i, s, e, want)
		}
		last := x.left[len(x.left)-1]
		if s, e := salt.Owes(x.b, 3); s != to(3*last.Low, 3*last.High) || e != api.OK {
			t.Errorf("Owes %d: %v, %d", i, s, e)
		}
	}
}

// TestEnough is of P6.4 and P6.5. (-1 stands for ErrNone.)
func TestEnough(t *testing.T) {
	one := plain(to(10, 20), to(1, 2), day(0, casks(1, 4), none))
	three := plain(just(10), to(1, 2), day(0, casks(0, 5), none), day(0, casks(0, 5), none), day(30, casks(0, 5), none))
	for i, x := range []struct {
		b      api.SaltBook
		enough int
		more   []int
	}{
		{book(), 0, []int{4, -1}}, {much(), -1, []int{0, 0}}, {counted(), 0, []int{4, -1}}, {short(), 0, []int{4, -1}},
		// just enough, with as few at first and as many used as there can be
		{one, -1, []int{0}}, {with(one, start(9, 20)), 0, []int{1}}, {with(one, takes(1, 3)), 0, []int{5}}, {with(one, takes(1, 3), draw(0, 5)), -1, []int{0}}, {with(one, cured(0, casks(2, 4))), 0, []int{2}}, {with(one, start(0, 20), draw(0, 9)), 0, []int{1}},
		// what is drawn later is too late, what is drawn sooner is still there
		{three, 1, []int{10, 10, -1}}, {with(three, draw(2, 5)), 1, []int{15, 15, -1}}, {with(three, draw(0, 10)), -1, []int{0, 0, 0}}, {with(three, draw(0, 9)), 1, []int{1, 1, -1}}, {with(three, draw(1, 10)), -1, []int{0, 0, 0}}, {with(three, draw(0, 13), draw(2, 4)), 2, []int{3, 3, 3}}, {with(three, start(9, 10)), 0, []int{11, -1, -1}}, {with(three, start(9, 10), draw(1, 100)), 0, []int{1, -1, -1}},
		// more than can be drawn on a day
		{plain(just(0), just(9), day(200, casks(6, 40), none)), 0, []int{214}}, {plain(just(0), just(9), slices.Repeat([]api.SaltDay{day(0, casks(0, 40, 40, 40, 40), none)}, 2)...), 0, []int{2880, -1}},
		// counts do not matter
		{with(one, left(0, 0)), -1, []int{0}}, {with(one, left(0, 1400)), -1, []int{0}}, {with(three, left(0, 1400)), 1, []int{10, 10, -1}},
	} {
		want, f := x.enough, api.OK
		if want < 0 {
			want, f = 0, api.ErrNone
		}
		if n, e := salt.Enough(x.b); n != want || e != f {
			t.Errorf("Enough %d: %d, %d", i, n, e)
		}
		for number, want := range x.more {
			f := api.OK
			if want < 0 {
				want, f = 0, api.ErrNone
			}
			if n, e := salt.More(x.b, number); n != want || e != f {
				t.Errorf("More %d on %d: %d, %d, not %d", i, number, n, e, want)
			}
		}
	}
}

// TestFalseCounts is of P6.6 and P6.7. (-1 stands for ErrNone.)
func TestFalseCounts(t *testing.T) {
	coarse := plain(just(20), just(5), day(0, casks(1, 1), none))
	for i, x := range []struct {
		b     api.SaltBook
		gone  int
		wrong []int
	}{
		{book(), 0, nil}, {counted(), 0, nil}, {short(), 3, []int{1}},
		// all is known: 8, 6 and 4 are left
		{steady(just(10), none, none, none), 0, nil}, {steady(just(10), 8, 6, 4), 0, nil}, {steady(just(10), 7, 6, 4), -1, []int{0}}, {steady(just(10), 8, 5, 4), -1, []int{1}}, {steady(just(10), 8, 6, 3), 1, []int{2}}, {steady(just(10), none, none, 1), 3, []int{2}}, {steady(just(10), 8, none, 1), 3, []int{2}}, {steady(just(10), 7, 4, 1), 3, []int{0, 1, 2}}, {steady(just(10), 7, 5, 3), 1, []int{0, 1, 2}}, {steady(just(10), 7, none, 3), 1, []int{0, 2}}, {steady(just(10), none, 0, none), -1, []int{1}}, {steady(just(10), none, 2, none), 4, []int{1}}, {steady(just(10), none, 7, none), -1, []int{1}},
		// which of several counts are false: the fewest, and of these the first ones
		{steady(to(10, 12), 8, 7, none), -1, []int{0}}, {steady(to(10, 12), 8, 7, 5), -1, []int{0}}, {steady(to(10, 12), 8, 6, 5), -1, []int{2}}, {steady(to(10, 12), 10, 7, none), 1, []int{0}}, {steady(to(10, 12), 9, 6, 5), -1, []int{1}}, {steady(to(10, 12), 10, 7, 4), 2, []int{0, 1}}, {steady(to(10, 12), 11, 9, 7), -1, []int{0, 1, 2}}, {steady(to(10, 12), 10, 7, 5), 1, []int{0}},
		// lists that begin alike, each of which goes on with a day of its own
		{plain(just(20), to(2, 3), day(0, casks(0), 1400), day(0, casks(0), 1400), day(0, casks(0), 1400), day(0, casks(0, 1), 18), day(0, casks(0), 17)), -1, []int{0, 1, 2, 3}},
		// what goes elsewhere is as little as it can, from what can be left
		{with(coarse, left(0, 20)), 0, nil}, {with(coarse, left(0, 16)), 4, []int{0}}, {with(coarse, left(0, 12)), 3, []int{0}}, {with(coarse, left(0, 10)), 0, nil}, {with(coarse, left(0, 0)), 10, []int{0}}, {with(coarse, left(0, 21)), -1, []int{0}},
		// days after a count need what it leaves
		{plain(just(20), just(2), day(0, casks(0, 1), 5), day(0, casks(0, 3), none)), -1, []int{0}}, {plain(just(20), just(2), day(0, casks(0, 1), 6), day(0, casks(0, 3), none)), 12, []int{0}}, {plain(just(20), just(2), day(0, casks(0, 1), 5), day(1, casks(0, 3), none)), 13, []int{0}},
		// no count helps, or hinders
		{steady(just(5), none, none, none), -1, []int{-1}}, {steady(just(5), 3, 1, none), -1, []int{-1}}, {steady(just(6), none, none, none), 0, nil}, {steady(to(0, 6), none, none, 0), 0, nil}, {steady(to(0, 6), 1400, 1400, 1400), -1, []int{0, 1, 2}},
	} {
		want, f := x.gone, api.OK
		if want < 0 {
			want, f = 0, api.ErrNone
		}
		if n, e := salt.Gone(x.b); n != want || e != f {
			t.Errorf("Gone %d: %d, %d, not %d", i, n, e, want)
		}
		list, f := x.wrong, api.OK
		if slices.Contains(list, -1) {
			list, f = nil, api.ErrNone
		}
		if l, e := salt.Wrong(x.b); !slices.Equal(l, list) || e != f {
			t.Errorf("Wrong %d: %v, %d, not %v", i, l, e, list)
		}
		if is, e := salt.Right(x.b); is != (len(x.wrong) == 0) || e != api.OK {
			t.Errorf("Right %d: %v, %d", i, is, e)
		}
	}
}
