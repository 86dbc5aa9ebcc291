package cry_test

import (
	"slices"
	"testing"

	"huer/api"
	"huer/cry"
)

// change is a book after a change.
func change(b api.CryBook, what func(b *api.CryBook)) api.CryBook {
	b.Land = slices.Clone(b.Land)
	b.Cries = slices.Clone(b.Cries)
	what(&b)
	return b
}

// changeCry is the book of the examples after a change of its first cry.
func changeCry(what func(c *api.CryCry)) api.CryBook {
	return change(bay(), func(b *api.CryBook) { what(&b.Cries[0]) })
}

// TestCheckValid is of P1.1: each limit, and what it includes.
func TestCheckValid(t *testing.T) {
	for i, b := range []api.CryBook{
		bay(), calm(), still(), dry(),
		{Wide: 1, High: 1},
		{Wide: 10, High: 8},
		{Wide: 1, High: 1, Land: []int{0}},
		{Wide: 10, High: 8, Land: []int{79, 0, 1, 2, 3, 4, 5, 6, 7, 8}},
		{Wide: 1, High: 8, Land: []int{7}},
		{Wide: 1, High: 1, Heads: [2]int{-5, 15}},
		{Wide: 1, High: 1, Heads: [2]int{15, -5}},
		{Wide: 1, High: 1, Swim: 3},
		change(bay(), func(b *api.CryBook) { b.Cries = slices.Repeat(b.Cries, 4) }),
		changeCry(func(c *api.CryCry) { c.Huer = 1 }),
		changeCry(func(c *api.CryCry) { c.Minute = 30 }),
		changeCry(func(c *api.CryCry) { c.Kind = api.CryNot }),
		changeCry(func(c *api.CryCry) { c.From, c.To = to(9, 1), to(-9, 1) }),
		changeCry(func(c *api.CryCry) { c.From, c.To = to(9, 9), to(-9, 9) }),
		changeCry(func(c *api.CryCry) { c.From, c.To = to(1, 1), to(9, 9) }),
		changeCry(func(c *api.CryCry) { c.From, c.To = to(0, 1), to(0, 9) }),
		changeCry(func(c *api.CryCry) { c.From, c.To = to(-1, 2), to(-1, 1) }),
	} {
		if e := cry.Check(b); e != api.OK {
			t.Errorf("Check of the valid book %d: %d", i, e)
		}
	}
}

// wrongBooks are books that are not valid, each by one number.
func wrongBooks() []api.CryBook {
	return []api.CryBook{
		{},
		change(bay(), func(b *api.CryBook) { b.Wide = 0 }),
		change(bay(), func(b *api.CryBook) { b.Wide = 11 }),
		change(bay(), func(b *api.CryBook) { b.Wide = -6 }),
		change(bay(), func(b *api.CryBook) { b.Wide, b.High = -6, -4 }),
		change(bay(), func(b *api.CryBook) { b.High = 0 }),
		change(bay(), func(b *api.CryBook) { b.High = 9 }),
		change(bay(), func(b *api.CryBook) { b.High = -1 }),
		change(bay(), func(b *api.CryBook) { b.Land = []int{24} }),
		change(bay(), func(b *api.CryBook) { b.Land = []int{-1} }),
		change(bay(), func(b *api.CryBook) { b.Land = []int{2, 3, 2} }),
		change(bay(), func(b *api.CryBook) { b.Land = []int{0, 1, 2, 3, 4, 5, 6, 7, 8, 9, 10} }),
		change(bay(), func(b *api.CryBook) { b.Heads[0] = -6 }),
		change(bay(), func(b *api.CryBook) { b.Heads[0] = 16 }),
		change(bay(), func(b *api.CryBook) { b.Heads[1] = -6 }),
		change(bay(), func(b *api.CryBook) { b.Heads[1] = 16 }),
		change(bay(), func(b *api.CryBook) { b.Swim = -1 }),
		change(bay(), func(b *api.CryBook) { b.Swim = 4 }),
		change(bay(), func(b *api.CryBook) { b.Cries = slices.Repeat(b.Cries[:1], 9) }),
		changeCry(func(c *api.CryCry) { c.Huer = -1 }),
		changeCry(func(c *api.CryCry) { c.Huer = 2 }),
		changeCry(func(c *api.CryCry) { c.Minute = -1 }),
		changeCry(func(c *api.CryCry) { c.Minute = 31 }),
		changeCry(func(c *api.CryCry) { c.Kind = -1 }),
		changeCry(func(c *api.CryCry) { c.Kind = 2 }),
		changeCry(func(c *api.CryCry) { c.From.Along = 10 }),
		changeCry(func(c *api.CryCry) { c.From, c.To = to(-10, 9), to(-9, 1) }),
		changeCry(func(c *api.CryCry) { c.From, c.To = to(10, 1), to(9, 1) }),
		changeCry(func(c *api.CryCry) { c.From.Out = 0 }),
		changeCry(func(c *api.CryCry) { c.From, c.To = to(1, 10), to(0, 1) }),
		changeCry(func(c *api.CryCry) { c.From.Out = -1 }),
		changeCry(func(c *api.CryCry) { c.To = to(-10, 1) }),
		changeCry(func(c *api.CryCry) { c.From, c.To = to(9, 1), to(10, 9) }),
		changeCry(func(c *api.CryCry) { c.To = to(-1, 0) }),
		changeCry(func(c *api.CryCry) { c.To = to(-1, -1) }),
		changeCry(func(c *api.CryCry) { c.To.Out = 10 }),
		changeCry(func(c *api.CryCry) { c.From, c.To = to(1, 2), to(1, 1) }),
		changeCry(func(c *api.CryCry) { c.From, c.To = to(-9, 1), to(9, 1) }),
		changeCry(func(c *api.CryCry) { c.From, c.To = to(-1, 1), to(-1, 2) }),
		change(bay(), func(b *api.CryBook) { b.Cries[1].Minute = 31 }),
	}
}

// allErrors are the errors of all functions of a book, each asked what is wrong to ask, and then what is not.
func allErrors(b api.CryBook, wrong bool) []api.Errno {
	minute, size, c := 0, 1, at(0, 0)
	if wrong {
		minute, size, c = -1, 0, api.CryCry{Huer: 2}
	}
	_, seen := cry.Seen(b, minute)
	_, right := cry.Right(b)
	_, where := cry.Where(b, minute)
	_, can := cry.Can(b, minute, minute)
	_, apart := cry.Apart(b, minute)
	_, shot := cry.Shot(b, minute, size, size)
	_, _, soon := cry.Soon(b, size, size)
	_, fits := cry.Fits(b, c)
	_, dropped := cry.Wrong(b)
	return []api.Errno{cry.Check(b), seen, right, where, can, apart, shot, soon, fits, dropped}
}

// TestCheckWrong is of P1.1: all functions return the error of a wrong book first.
func TestCheckWrong(t *testing.T) {
	for i, b := range wrongBooks() {
		for _, wrong := range []bool{false, true} {
			for f, e := range allErrors(b, wrong) {
				if e != api.ErrCry {
					t.Errorf("the wrong book %d, the function %d, a wrong question %v: %d", i, f, wrong, e)
				}
			}
		}
	}
}

// TestErrorOrder is of P1 and of P1.1 to P1.7: which error comes before which, and which function has none.
func TestErrorOrder(t *testing.T) {
	const ask, none, lie = api.ErrCryAsk, api.OK, api.ErrCryFalse
	for i, x := range []struct {
		b     api.CryBook
		wrong bool
		want  []api.Errno // Check, Seen, Right, Where, Can, Apart, Shot, Soon, Fits, Wrong
	}{
		{bay(), true, []api.Errno{none, ask, none, ask, ask, ask, ask, ask, ask, none}},
		{still(), true, []api.Errno{none, ask, none, ask, ask, ask, ask, ask, ask, none}},
		{dry(), true, []api.Errno{none, ask, none, ask, ask, ask, ask, ask, ask, lie}},
		{still(), false, []api.Errno{none, none, none, lie, lie, lie, lie, lie, none, none}},
		{dry(), false, []api.Errno{none, ask, none, lie, lie, lie, lie, lie, none, lie}},
		{bay(), false, []api.Errno{none, none, none, none, none, none, api.ErrNone, api.ErrNone, none, none}},
	} {
		if l := allErrors(x.b, x.wrong); !slices.Equal(l, x.want) {
			t.Errorf("the errors %d: %v, not %v", i, l, x.want)
		}
	}
}

// TestSeen is of P1.1.
func TestSeen(t *testing.T) {
	for i, x := range []struct {
		b    api.CryBook
		cry  int
		want []int
		e    api.Errno
	}{
		{bay(), 0, []int{1, 7, 8, 14, 15, 20, 21, 22}, api.OK},
		{bay(), 1, []int{3, 4, 7, 8, 9, 12, 13, 14, 18, 19}, api.OK},
		// what is seen is the same of a cry that it is not, and of books that cannot be true
		{still(), 2, []int{1, 7, 8, 14, 15, 20, 21, 22}, api.OK},
		{change(bay(), func(b *api.CryBook) { b.Land = []int{22, 2, 7} }), 0, []int{1, 8, 14, 15, 20, 21}, api.OK},
		{change(dry(), func(b *api.CryBook) { b.Cries = []api.CryCry{at(0, 0)} }), 0, nil, api.OK},
		{row(8, 0, at(0, 3)), 0, []int{3}, api.OK},
		{row(8, 0, impossible(0)), 0, nil, api.OK},
		// from a head that is left of the bay, and from one that is right of it
		{change(row(8, 0, at(0, 7)), func(b *api.CryBook) { b.Heads[0] = -5 }), 0, []int{2}, api.OK},
		{row(8, 0, sees(1, 0, to(-3, 1), to(-5, 1))), 0, []int{4, 5, 6}, api.OK},
		{api.CryBook{Wide: 3, High: 3, Heads: [2]int{15, 1}, Cries: []api.CryCry{sees(1, 0, to(0, 1), to(0, 9)), sees(0, 0, to(-9, 1), to(-9, 1))}}, 0, []int{1, 4, 7}, api.OK},
		{bay(), 2, nil, api.ErrCryAsk},
		{bay(), -1, nil, api.ErrCryAsk},
		{row(3, 0), 0, nil, api.ErrCryAsk},
	} {
		if l, e := cry.Seen(x.b, x.cry); !slices.Equal(l, x.want) || e != x.e {
			t.Errorf("Seen %d: %v, %d", i, l, e)
		}
	}
}

// TestWhere is of P1.1 to P1.3: Right, Where, Can and Apart.
func TestWhere(t *testing.T) {
	for i, x := range []struct {
		b      api.CryBook
		minute int
		want   []int
		apart  int
	}{
		{bay(), 0, []int{1, 7, 8, 14, 15, 20, 21}, 3},
		{bay(), 1, []int{3, 7, 8, 9, 12, 13, 14, 19}, 3},
		{calm(), 0, []int{7, 8, 14}, 1},
		{calm(), 30, []int{7, 8, 14}, 1},
		{still(), 30, nil, 0},
		{dry(), 0, nil, 0},
		{api.CryBook{Wide: 1, High: 1}, 15, []int{0}, 0},
		{api.CryBook{Wide: 2, High: 3, Land: []int{3, 0}}, 30, []int{1, 2, 4, 5}, 2},
		// land: what it cannot swim over, and what it can pass by
		{change(row(8, 1, at(0, 2)), func(b *api.CryBook) { b.Land = []int{4} }), 30, []int{0, 1, 2, 3}, 3},
		{change(row(8, 2, at(0, 2)), func(b *api.CryBook) { b.Land = []int{4} }), 1, []int{0, 1, 2, 3}, 3},
		{change(row(8, 2, at(0, 2)), func(b *api.CryBook) { b.Land = []int{4} }), 2, []int{0, 1, 2, 3, 5}, 5},
		{api.CryBook{Wide: 2, High: 2, Land: []int{1, 2}, Swim: 1, Cries: []api.CryCry{sees(0, 0, to(0, 1), to(0, 1))}}, 1, []int{0, 3}, 1},
		{api.CryBook{Wide: 2, High: 2, Land: []int{1, 2}, Cries: []api.CryCry{sees(0, 0, to(0, 1), to(0, 1))}}, 1, []int{0}, 0},
		// as far as it swims, before and behind a cry
		{row(9, 3, at(15, 0)), 15, []int{0}, 0},
		{row(9, 3, at(15, 0)), 14, []int{0, 1, 2, 3}, 3},
		{row(9, 3, at(15, 0)), 17, []int{0, 1, 2, 3, 4, 5, 6}, 6},
		{row(9, 2, at(0, 0), at(4, 8)), 3, []int{6}, 0},
		{row(9, 2, at(0, 0), at(4, 8)), 5, []int{6, 7, 8}, 2},
		{row(9, 2, at(0, 0), at(3, 8)), 5, nil, 0},
		{row(9, 1, at(30, 8)), 30, []int{8}, 0},
		{row(9, 1, at(30, 8)), 27, []int{5, 6, 7, 8}, 3},
		// two cries of one minute, and one that it is not
		{row(9, 0, sees(0, 4, to(7, 1), to(2, 1)), not(0, 4, to(5, 1), to(4, 1))), 0, []int{2, 3, 6, 7}, 5},
		{row(9, 0, sees(0, 4, to(7, 1), to(2, 1)), not(0, 4, to(7, 1), to(2, 1))), 0, nil, 0},
	} {
		e := api.OK
		if x.want == nil {
			e = api.ErrCryFalse
		}
		if l, f := cry.Where(x.b, x.minute); !slices.Equal(l, x.want) || f != e {
			t.Errorf("Where %d: %v, %d", i, l, f)
		}
		if n, f := cry.Apart(x.b, x.minute); n != x.apart || f != e {
			t.Errorf("Apart %d: %d, %d", i, n, f)
		}
		if is, f := cry.Right(x.b); is != (e == api.OK) || f != api.OK {
			t.Errorf("Right %d: %v, %d", i, is, f)
		}
		for s := range x.b.Wide * x.b.High {
			if is, f := cry.Can(x.b, x.minute, s); is != slices.Contains(x.want, s) || f != e {
				t.Errorf("Can %d of %d: %v, %d", i, s, is, f)
			}
		}
	}
	for _, m := range []int{-1, 31} {
		_, where := cry.Where(bay(), m)
		_, can := cry.Can(bay(), m, 0)
		_, apart := cry.Apart(bay(), m)
		if where != api.ErrCryAsk || can != api.ErrCryAsk || apart != api.ErrCryAsk {
			t.Errorf("the minute %d: %d, %d, %d", m, where, can, apart)
		}
	}
	for _, s := range []int{-1, 24} {
		if is, e := cry.Can(bay(), 0, s); is || e != api.ErrCryAsk {
			t.Errorf("Can of the square %d: %v, %d", s, is, e)
		}
	}
}

// TestShot is of P1.4.
func TestShot(t *testing.T) {
	for i, x := range []struct {
		b                  api.CryBook
		minute, wide, high int
		want               int
		e                  api.Errno
	}{
		{bay(), 0, 3, 4, 1, api.OK},
		{calm(), 5, 2, 2, 7, api.OK},
		{calm(), 5, 10, 10, 0, api.OK},
		{calm(), 5, 2, 10, 1, api.OK},
		{calm(), 5, 10, 2, 6, api.OK},
		{calm(), 5, 1, 2, 0, api.ErrNone},
		{calm(), 5, 2, 1, 0, api.ErrNone},
		// the first square may be land, and a seine may reach beyond the bay
		{change(calm(), func(b *api.CryBook) { b.Land = []int{0, 7} }), 0, 2, 2, 7, api.OK},
		{change(calm(), func(b *api.CryBook) { b.Land = []int{0, 7} }), 0, 3, 3, 0, api.OK},
		{row(8, 0, at(3, 7)), 0, 1, 1, 7, api.OK},
		{row(8, 0, at(3, 7)), 30, 5, 10, 3, api.OK},
		{row(8, 0, at(3, 0)), 30, 5, 10, 0, api.OK},
		{bay(), -1, 4, 4, 0, api.ErrCryAsk},
		{bay(), 31, 4, 4, 0, api.ErrCryAsk},
		{bay(), 0, 0, 4, 0, api.ErrCryAsk},
		{bay(), 0, 11, 4, 0, api.ErrCryAsk},
		{bay(), 0, 4, 0, 0, api.ErrCryAsk},
		{bay(), 0, 4, 11, 0, api.ErrCryAsk},
		{still(), 0, 10, 10, 0, api.ErrCryFalse},
	} {
		if s, e := cry.Shot(x.b, x.minute, x.wide, x.high); s != x.want || e != x.e {
			t.Errorf("Shot %d: %d, %d", i, s, e)
		}
	}
}

// TestSoon is of P1.5.
func TestSoon(t *testing.T) {
	for i, x := range []struct {
		b              api.CryBook
		wide, high     int
		minute, square int
		e              api.Errno
	}{
		{bay(), 4, 4, 0, 0, api.OK},
		{bay(), 3, 3, 0, 0, api.ErrNone},
		{calm(), 2, 2, 0, 7, api.OK},
		{row(9, 1, at(12, 4)), 1, 1, 12, 4, api.OK},
		{row(9, 1, at(12, 4)), 3, 1, 11, 3, api.OK},
		{row(9, 1, at(30, 8)), 1, 1, 30, 8, api.OK},
		{row(9, 1, at(30, 8)), 9, 1, 0, 0, api.OK},
		{row(9, 1), 8, 10, 0, 0, api.ErrNone},
		{bay(), 0, 4, 0, 0, api.ErrCryAsk},
		{bay(), 11, 4, 0, 0, api.ErrCryAsk},
		{bay(), 4, 0, 0, 0, api.ErrCryAsk},
		{still(), 4, 11, 0, 0, api.ErrCryAsk},
		{still(), 10, 10, 0, 0, api.ErrCryFalse},
	} {
		if m, s, e := cry.Soon(x.b, x.wide, x.high); m != x.minute || s != x.square || e != x.e {
			t.Errorf("Soon %d: %d, %d, %d", i, m, s, e)
		}
	}
}

// TestFits is of P1.6.
func TestFits(t *testing.T) {
	full := row(9, 1, slices.Repeat([]api.CryCry{at(2, 4)}, 8)...)
	for i, x := range []struct {
		b    api.CryBook
		cry  api.CryCry
		want bool
		e    api.Errno
	}{
		{bay(), not(0, 1, to(1, 1), to(1, 2)), true, api.OK},
		{bay(), sees(1, 0, to(-9, 1), to(-9, 1)), false, api.OK},
		{full, at(3, 5), true, api.OK},
		{full, at(3, 6), false, api.OK},
		{full, at(1, 3), true, api.OK},
		{full, at(1, 2), false, api.OK},
		{still(), at(0, 1), false, api.OK},
		{dry(), at(0, 0), false, api.OK},
		{bay(), sees(2, 0, to(0, 1), to(0, 1)), false, api.ErrCryAsk},
		{bay(), sees(0, 31, to(0, 1), to(0, 1)), false, api.ErrCryAsk},
		{bay(), api.CryCry{Kind: 2, From: to(0, 1), To: to(0, 1)}, false, api.ErrCryAsk},
		{bay(), sees(0, 0, to(0, 0), to(0, 1)), false, api.ErrCryAsk},
		{bay(), sees(0, 0, to(0, 1), to(0, 10)), false, api.ErrCryAsk},
		{bay(), sees(0, 0, to(0, 1), to(1, 1)), false, api.ErrCryAsk},
		{still(), api.CryCry{}, false, api.ErrCryAsk},
	} {
		if is, e := cry.Fits(x.b, x.cry); is != x.want || e != x.e {
			t.Errorf("Fits %d: %v, %d", i, is, e)
		}
	}
}

// TestWrong is of P1.7.
func TestWrong(t *testing.T) {
	for i, x := range []struct {
		b    api.CryBook
		want []int
		e    api.Errno
	}{
		{bay(), nil, api.OK},
		{still(), []int{0}, api.OK},
		{row(9, 1), nil, api.OK},
		{row(9, 0, impossible(3)), []int{0}, api.OK},
		// the fewest come before the first
		{row(9, 0, at(0, 2), at(0, 3), at(9, 3)), []int{0}, api.OK},
		{row(9, 0, at(0, 2), at(8, 2), at(9, 3)), []int{2}, api.OK},
		{row(9, 0, at(0, 1), at(1, 1), at(2, 2), at(3, 1)), []int{2}, api.OK},
		{row(9, 0, at(0, 1), at(1, 2), at(2, 1), at(3, 2)), []int{0, 2}, api.OK},
		{row(9, 0, at(0, 1), at(1, 2), at(2, 2), at(3, 1), at(4, 3)), []int{0, 3, 4}, api.OK},
		{row(9, 0, at(0, 1), at(1, 2), at(2, 2), at(3, 1), at(4, 3), impossible(30)), []int{0, 3, 4, 5}, api.OK},
		{row(9, 0, slices.Repeat([]api.CryCry{impossible(30)}, 8)...), []int{0, 1, 2, 3, 4, 5, 6, 7}, api.OK},
		{dry(), nil, api.ErrCryFalse},
		{with(dry(), at(0, 0), at(1, 1)), nil, api.ErrCryFalse},
	} {
		if l, e := cry.Wrong(x.b); !slices.Equal(l, x.want) || e != x.e {
			t.Errorf("Wrong %d: %v, %d", i, l, e)
		}
	}
}

// TestExamples is the chapter's table of examples, as far as no other test has it.
func TestExamples(t *testing.T) {
	if is, e := cry.Can(bay(), 0, 22); is || e != api.OK {
		t.Errorf("Can at 0, 22: %v, %d", is, e)
	}
	if is, e := cry.Can(bay(), 2, 0); !is || e != api.OK {
		t.Errorf("Can at 2, 0: %v, %d", is, e)
	}
	if s, e := cry.Shot(bay(), 1, 3, 4); s != 0 || e != api.ErrNone {
		t.Errorf("Shot at 1, 3 by 4: %d, %d", s, e)
	}
	if s, e := cry.Shot(bay(), 1, 4, 4); s != 0 || e != api.OK {
		t.Errorf("Shot at 1, 4 by 4: %d, %d", s, e)
	}
	if is, e := cry.Right(still()); is || e != api.OK {
		t.Errorf("Right of still: %v, %d", is, e)
	}
	if m, s, e := cry.Soon(calm(), 2, 2); m != 0 || s != 7 || e != api.OK {
		t.Errorf("Soon of calm: %d, %d, %d", m, s, e)
	}
}
