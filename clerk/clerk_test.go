package clerk_test

import (
	"slices"
	"strings"
	"testing"

	"huer/api"
	"huer/clerk"
)

// TestExamples is of P11.2 and P11.3: the chapter's examples, one after the other.
func TestExamples(t *testing.T) {
	const no, not, unknown, wide = api.ErrNone, api.ErrClerkFalse, api.ErrClerkUnknown, api.ErrRange
	c := made(t, setup())
	play(t, c, []done{
		{"cry 0 0 0 10 1 10 2", "8", 0}, {"cry 1 1 0 8 1 7 1", "8", 0}, {"where 0", "1 7 8 14 15 20 21", 0},
		{"shoot 0 3 4", "1", 0}, {"shoot 1 3 4", "", no}, {"soon 4 4", "0 0", 0},
		{"cry 1 0 0 0 1 0 1", "", not}, {"cry 0 0 0 9 1 10 1", "", wide},
		{"note 0 6 30 30", "70 80", 0}, {"note 1 8 1 3", "70 80", 0}, {"note 2 18 0 0", "40 70", 0}, {"note 4 20 45 55", "45 55", 0},
		{"held 10", "66 74", 0}, {"rate 8", "2 3", 0}, {"empty", "", no}, {"saved", "0 0", 0}, {"note 4 30 60 60", "", not},
		{"lot 10 - - 6 0 0", "6 6", 0}, {"lot 20 9 - - 0 2", "12 14", 0}, {"lot 5 9 1 - 0 0", "", not},
		{"fish 1", "33 36", 0}, {"packed 1", "31 36", 0}, {"count 1 2", "6 8", 0}, {"total", "59 72", 0}, {"casks", "12 14", 0}, {"weigh", "2", 0},
		{"buy penrose 8 20 5", "8 8", 0}, {"buy bolitho 4 10 3", "4 4", 0}, {"buy penrose 3 15 2", "0 2", 0}, {"buy kersey 1 1 1", "", unknown},
		{"ready 10", "6 6", 0}, {"gets 2", "0 2", 0}, {"full", "0 1", 0}, {"short", "1 3", 0}, {"fines", "2 6", 0},
		{"sell 10", "0", 0}, {"later 2", "", no}, {"drop", "1", 0}, {"whose penrose", "0 2", 0},
	}...)
	want := []string{
		"cry 0 0 0 10 1 10 2", "cry 1 1 0 8 1 7 1", "note 0 6 30 30", "note 1 8 1 3", "note 2 18 0 0", "note 4 20 45 55",
		"lot 10 - - 6 0 0", "lot 20 9 - - 0 2", "buy penrose 8 20 5", "buy bolitho 4 10 3", "buy penrose 3 15 2",
	}
	if l := c.Journal(); !slices.Equal(l, want) {
		t.Errorf("Journal: %q", l)
	}
}

// TestCheckValid is of P11.1: each limit of a setup, and what it includes.
func TestCheckValid(t *testing.T) {
	for i, s := range []api.ClerkSetup{
		setup(), setup(names()), setup(names("a", "b", "c", "d", "e", "f")), setup(names("a23456789012", "z0", "zz", "m9a")), setup(names("penrose", "penros", "penrosee")),
		setup(inclosed(0, 0)), setup(inclosed(400, 400)), setup(inclosed(0, 12)), setup(holds(0, 1, 4)), setup(holds(2, 9, 9)), setup(wrongBy(0, 9), wrongBy(1, 0)),
		setup(land(0, 23)), setup(func(s *api.ClerkSetup) { s.Cry = api.CryBook{Wide: 1, High: 1} }), setup(func(s *api.ClerkSetup) { s.Cry.Cries = []api.CryCry{} }),
		setup(func(s *api.ClerkSetup) {
			s.Cry = api.CryBook{Wide: 10, High: 8, Heads: [2]int{-5, 15}, Swim: 3, Land: []int{0, 1, 2, 3, 4, 5, 6, 7, 8, 79}}
		}),
	} {
		c, e := clerk.New(s)
		if f := clerk.Check(s); f != api.OK || e != api.OK || c == nil || c.File() != "" || len(c.Journal()) > 0 {
			t.Errorf("the valid setup %d: %d, %d, %v", i, f, e, c)
		}
	}
}

// wrongSetups are setups that are not valid, each by one thing.
func wrongSetups() []api.ClerkSetup {
	list := []api.ClerkSetup{
		{}, setup(land(24)), setup(land(3, 3)), setup(land(-1)),
		setup(inclosed(-1, 0)), setup(inclosed(400, 401)), setup(inclosed(10, 9)), setup(inclosed(0, 13)),
		setup(holds(0, 0, 1)), setup(holds(1, 9, 10)), setup(holds(2, 3, 7)), setup(holds(0, 5, 4)), setup(wrongBy(0, -1)), setup(wrongBy(1, 10)), setup(wrongBy(2, 10)),
		setup(names("a", "b", "c", "d", "e", "f", "g")), setup(names("a", "b", "a")), setup(names("a", "")), setup(names("a234567890123")),
	}
	for _, name := range []string{"A", "aB", "9", "1a", "a-", "a ", " a", "a\n", "a_b", "\xe4", "a\xff", "`", "{", "a/", "a:", "é"} {
		list = append(list, setup(names("penrose", name)))
	}
	for _, change := range []func(b *api.CryBook){
		func(b *api.CryBook) { b.Wide = 11 }, func(b *api.CryBook) { b.High = 0 }, func(b *api.CryBook) { b.Heads[1] = 16 }, func(b *api.CryBook) { b.Swim = 4 },
		// a cry, though it is right; and a bay in which no shoal can be
		func(b *api.CryBook) { b.Cries = []api.CryCry{cried([]int{0, 0, 0, 10, 1, 10, 2})} },
		func(b *api.CryBook) { *b = api.CryBook{Wide: 2, High: 1, Land: []int{1, 0}} },
	} {
		list = append(list, setup(func(s *api.ClerkSetup) { change(&s.Cry) }))
	}
	return list
}

// TestCheckWrong is of P11.1 and P11.4: a wrong setup has no clerk, whatever its file is.
func TestCheckWrong(t *testing.T) {
	for i, s := range wrongSetups() {
		if e := clerk.Check(s); e != api.ErrClerk {
			t.Errorf("Check of the wrong setup %d: %d", i, e)
		}
		if c, e := clerk.New(s); c != nil || e != api.ErrClerk {
			t.Errorf("New of the wrong setup %d: %v, %d", i, c, e)
		}
		for _, file := range []string{"", "x", "note 2 5 0 0\n", "note 2 5 0 0\ncasks\n", strings.Repeat("x", 60001)} {
			if c, at, e := clerk.Open(s, file); c != nil || at != 0 || e != api.ErrClerk {
				t.Errorf("Open of the wrong setup %d: %v, %d, %d", i, c, at, e)
			}
		}
	}
}

// TestNone is of P11.2 and P11.3: a clerk that neither New nor Open returned does nothing, and returns nothing.
func TestNone(t *testing.T) {
	c := told(t, setup(), "note 2 5 0 0", "buy penrose 1 1 1", "lot 1 - - 6 0 0", "cry 0 0 0 10 1 10 2")
	copy := *c
	var none *clerk.Clerk
	for i, d := range []*clerk.Clerk{none, {}, &copy} {
		for _, line := range []string{"note 2 5 0 0", "casks", "", "moon", "whose kersey", "note 5 0 0 0"} {
			if answer, e := d.Do(line); answer != "" || e != api.ErrNil {
				t.Errorf("the clerk %d that is none, %q: %q, %d", i, line, answer, e)
			}
		}
		if len(d.Cries())+len(d.Notes())+len(d.Lots())+len(d.Bonds())+len(d.Journal())+len(d.File()) > 0 {
			t.Errorf("the clerk %d that is none: %s", i, memory(d))
		}
	}
	play(t, c, done{"note 2 5 0 0", "100 110", 0}, done{"whose penrose", "0", 0})
}

// wrongLines are lines that do not have the form.
func wrongLines() []string {
	return []string{
		"", " ", "  ", "\n", "-", "0", "moon", "Casks", "casks ", " casks", "casks  ", "casks\n", "\ncasks", "cas\nks", "casks\r", "casks\t", "casks 1", "casks -", "cask", "caskss",
		"where", "where ", "where  1", "where 1 ", "where 1 2", "where -", "where -1", "where +1", "where 01", "where 00", "where 1.", "where x", "where 0x1", "where 1x", "where 10000000", "where 00000000", "where \xff", "where 1\n", "where ١",
		"shoot 1 1", "shoot 1 1 1 1", "soon 1", "soon 1 1 1", "note 2 5 0 /", "note 2 5 0 :", "where 1234567890", "where 9223372036854775808", "held", "rate", "empty 0", "saved 0", "fish", "packed", "count 1", "count 1 1 1", "count 1 -", "total 0", "weigh 0",
		"ready", "gets", "full 0", "short 0", "fines 0", "sell", "later", "drop 0", "where:1", "where\t1",
		"cry 0 0 0 10 1 10", "cry 0 0 0 10 1 10 2 0", "cry 0 0 0 10 1 -10 2", "cry 0 0 0 -1 1 0 1", "cry 0 0 0 10 1 penrose 2", "cry 0 0 0 10 1 - 2", "cry 0 0 0 10 1  10 2",
		"note 2 5 0", "note 2 5 0 0 0", "note 2 5 - 0", "note 2 5 0 x",
		"lot 10 - - 6 0", "lot 10 - - 6 0 0 0", "lot - - - 6 0 0", "lot 10 - - 6 - 0", "lot 10 - - 6 0 -", "lot 10 -- - 6 0 0", "lot 10 -1 - 6 0 0", "lot 10 - - 06 0 0", "lot 10  - 6 0 0", "lot 10 - x 6 0 0", "lot 10 1- - 6 0 0",
		"buy 8 20 5", "buy penrose 8 20", "buy penrose 8 20 5 5", "buy  8 20 5", "buy kersey 8 20 x", "buy kersey - 20 5", "buy penrose bolitho 8 20 5", "buy pen\nrose 8 20 5",
		"whose", "whose ", "whose  ", "whose penrose ", "whose penrose bolitho", "whose pen\nrose", "whose\npenrose",
		"whose " + strings.Repeat("a", 115), strings.Repeat("x", 121), strings.Repeat(" ", 1000), "where 1" + strings.Repeat(" 1", 100000),
	}
}

// TestForm is of P11.2 and P11.7: lines without the form, and some that barely have it.
func TestForm(t *testing.T) {
	c := told(t, setup(), "note 2 5 0 0")
	fail(t, c, api.ErrClerkLine, wrongLines()...)
	fail(t, c, api.ErrClerkUnknown, "whose "+strings.Repeat("a", 114), "whose -", "whose \t", "whose \xff", "whose \x00", "whose 0", "whose penros", "whose penrosee", "whose Penrose", "buy - 0 0 0", "buy kersey 9999999 0 0", "buy penrose, 1 1 1")
	fail(t, c, api.ErrRange, "where 9999999", "note 9999999 9999999 9999999 9999999", "cry 9999999 0 0 9999999 9999999 0 0", "lot 9999999 9999999 - - 9999999 0", "gets 9999999", "sell 1000000")
	play(t, c, done{"held 0", "100 110", 0}, done{"held 60", "100 110", 0}, done{"lot 0 0 0 0 0 0", "0 0", 0})
}

// TestRange is of P11.2: each number just beyond its limits.
func TestRange(t *testing.T) {
	c := told(t, setup(), "lot 10 - - 6 0 0", "buy penrose 1 10 0")
	fail(t, c, api.ErrRange,
		"cry 2 0 0 10 1 10 2", "cry 0 31 0 10 1 10 2", "cry 0 0 2 10 1 10 2", "cry 0 0 0 19 1 10 2", "cry 0 0 0 10 0 10 2", "cry 0 0 0 10 10 10 2", "cry 0 0 0 18 1 19 1", "cry 0 0 0 10 1 10 0", "cry 0 0 0 10 1 10 10", "cry 0 0 0 10 2 10 1", "cry 0 0 0 9 1 10 1", "cry 0 0 1 8 1 9 1",
		"note 5 0 0 0", "note 0 61 0 0", "note 0 0 1 0", "note 0 0 0 13", "note 0 0 400 401", "note 1 0 9 10", "note 2 0 0 1", "note 2 0 1 1", "note 3 0 401 401", "note 4 0 0 13",
		"lot 400 - - 6 0 0", "lot 10 41 - - 0 0", "lot 10 - 41 - 0 0", "lot 10 - - 41 0 0", "lot 10 - - 6 1 0", "lot 10 - - 6 0 6", "lot 10 - - 6 20 21", "lot 400 - - - 0 0",
		"buy penrose 0 10 0", "buy penrose 61 10 0", "buy penrose 1 400 0", "buy penrose 1 10 100",
		"where 31", "shoot 31 1 1", "shoot 0 0 1", "shoot 0 1 0", "shoot 0 11 1", "shoot 0 1 11", "soon 0 1", "soon 1 0", "soon 11 1", "soon 1 11",
		"held 61", "rate 61", "fish 1", "packed 1", "count 1 0", "count 0 3", "ready 400", "gets 1", "sell 400", "later 1",
	)
	for _, line := range []string{
		"cry 1 30 1 0 9 0 9", "cry 0 0 0 18 1 0 1", "cry 0 0 0 9 1 9 9", "note 0 60 0 12", "note 1 60 0 9", "note 2 60 0 0", "note 3 60 388 400", "note 4 0 98 110",
		"lot 399 40 - - 0 5", "lot 0 - - - 15 20", "lot 0 - 40 - 20 20", "lot 399 - - 40 0 0", "buy penrose 60 0 99", "buy bolitho 1 399 0",
		"where 30", "shoot 30 10 10", "soon 10 10", "held 60", "rate 60", "fish 0", "packed 0", "count 0 2", "ready 399", "gets 0", "sell 399", "later 0",
	} {
		if answer, e := told(t, setup(), c.Journal()...).Do(line); answer == "" || e != api.OK {
			t.Errorf("%q: %q, %d", line, answer, e)
		}
	}
}

// TestOrder is of P11.2 and P1: of several errors that apply to a line the first one.
func TestOrder(t *testing.T) {
	full := []string{}
	for range 8 {
		full = append(full, "cry 0 0 1 9 1 9 1", "note 4 5 100 110")
	}
	full = append(full, slices.Repeat([]string{"lot 10 - - 6 0 0"}, 4)...)
	full = append(full, slices.Repeat([]string{"buy penrose 1 10 1"}, 6)...)
	c := told(t, setup(), full...)
	// no form, before an unknown merchant, a number beyond its limits, no room
	fail(t, c, api.ErrClerkLine, "buy kersey 0 10 1 ", "cry 2 0 1 9 1 9 01", "lot 400 - - 6 0 --", "note 5 0 0 00", "whose kersey penrose")
	// an unknown merchant, before a number beyond its limits, no room
	fail(t, c, api.ErrClerkUnknown, "buy kersey 0 10 1", "buy kersey 1 10 1")
	// a number beyond its limits, before no room
	fail(t, c, api.ErrRange, "cry 2 0 1 9 1 9 1", "note 5 0 0 0", "lot 400 - - 6 0 0", "lot 10 - - 41 0 0", "buy penrose 0 10 1")
	// no room, before what cannot be true
	fail(t, c, api.ErrFull, "cry 0 0 0 9 1 9 1", "cry 0 9 1 9 1 9 1", "note 4 5 99 99", "note 2 5 0 0", "lot 10 1 - 6 0 0", "lot 10 - - - 0 0", "buy penrose 1 10 1")
	// what is asked, before that there is nothing
	fail(t, c, api.ErrRange, "shoot 0 0 1", "later 6")
	fail(t, c, api.ErrNone, "shoot 0 1 1", "soon 1 1", "empty")
	play(t, c, done{"where 0", "1 2 3 4 5 7 8 9 10 11 13 14 15 16 17 19 20 21 22 23", 0}, done{"whose penrose", "0 1 2 3 4 5", 0}, done{"casks", "24 24", 0}, done{"held 5", "100 110", 0})
	// a number beyond its limits, before what cannot be true
	d := told(t, setup(), "cry 0 0 1 9 1 9 1", "note 4 5 100 110", "lot 10 - - 6 0 0")
	fail(t, d, api.ErrRange, "cry 0 0 0 9 0 9 1", "note 4 5 90 110", "lot 400 1 - 6 0 0")
	fail(t, d, api.ErrClerkFalse, "cry 0 0 0 9 1 9 1", "note 4 5 90 99", "lot 10 1 - 6 0 0")
}

// TestFull is of P11.2: as many cries, notes, lots and bonds as there can be, and not one more; lines that ask need no room.
func TestFull(t *testing.T) {
	for _, x := range []struct {
		line string
		most int
	}{{"cry 1 30 0 9 1 9 1", 8}, {"note 1 60 9 9", 8}, {"lot 399 0 0 - 0 0", 4}, {"lot 5 - - - 0 5", 4}, {"buy bolitho 60 399 99", 6}} {
		c := told(t, setup(), slices.Repeat([]string{x.line}, x.most)...)
		fail(t, c, api.ErrFull, x.line)
		for _, other := range []string{"cry 1 29 1 9 1 9 1", "note 1 50 1 1", "lot 1 0 0 - 0 0", "buy penrose 1 1 1"} {
			if strings.Fields(other)[0] == strings.Fields(x.line)[0] {
				fail(t, c, api.ErrFull, other)
			} else if _, e := c.Do(other); e != api.OK {
				t.Errorf("%q behind %d times %q: %d", other, x.most, x.line, e)
			}
		}
		if _, e := c.Do("total"); e != api.OK {
			t.Errorf("total: %d", e)
		}
	}
}

// TestUncounted is of P11.2 and P11.8: a lot of which nothing was counted can be true beside all others; one of which something was counted can be false.
func TestUncounted(t *testing.T) {
	c := told(t, setup(), "lot 1 - - 6 0 0", "lot 2 - - - 0 5")
	play(t, c, []done{
		{"count 1 2", "0 80", 0}, {"casks", "6 86", 0}, {"fish 1", "0 400", 0},
		{"lot 3 - 1 9 0 0", "", api.ErrClerkFalse}, {"lot 3 9 1 - 0 0", "", api.ErrClerkFalse}, {"lot 3 9 - 1 0 0", "", api.ErrClerkFalse}, {"lot 3 0 - - 1 1", "", api.ErrClerkFalse},
		{"lot 3 - - - 20 20", "6 162", 0}, {"fish 2", "20 400", 0}, {"buy penrose 60 3 1", "6 60", 0},
	}...)
	c = told(t, setup(), "lot 1 - - - 0 0")
	play(t, c, []done{{"lot 2 - - 1 9 9", "1 81", 0}, {"lot 3 9 1 - 0 0", "", api.ErrClerkFalse}, {"lot 3 9 4 - 0 0", "7 89", 0}}...)
}

// TestNotes is of P11.2 and P11.3: a note stands behind all notes of its hour, and before those of later ones.
func TestNotes(t *testing.T) {
	c := told(t, setup(), "note 0 20 1 1", "note 0 10 2 2", "note 0 20 3 3", "note 0 0 4 4", "note 0 10 5 5", "note 0 30 6 6")
	var many []int
	for _, one := range c.Notes() {
		many = append(many, one.Many.Low)
	}
	if !slices.Equal(many, []int{4, 2, 5, 1, 3, 6}) {
		t.Errorf("Notes: %v", c.Notes())
	}
	// mended before the breach of the same hour, or behind it
	for _, x := range []struct{ first, second, want string }{{"note 2 5 0 0", "note 1 5 1 1", "45 55"}, {"note 1 5 1 1", "note 2 5 0 0", "100 110"}} {
		play(t, told(t, setup(), x.first, x.second), done{"held 60", x.want, 0})
	}
}

// TestLists is of P11.3: cries, lots and bonds as they were added, with what lines told of them.
func TestLists(t *testing.T) {
	c := told(t, setup(),
		"cry 1 9 1 18 2 0 9", "lot 20 9 - - 0 2", "buy bolitho 4 10 3", "cry 0 8 0 10 1 9 3", "buy penrose 60 399 99", "lot 10 - 7 11 1 5")
	cries := []api.CryCry{
		{Huer: 1, Minute: 9, Kind: 1, From: api.CryPointing{Along: 9, Out: 2}, To: api.CryPointing{Along: -9, Out: 9}},
		{Huer: 0, Minute: 8, Kind: 0, From: api.CryPointing{Along: 1, Out: 1}, To: api.CryPointing{Along: 0, Out: 3}},
	}
	if l := c.Cries(); !slices.Equal(l, cries) {
		t.Errorf("Cries: %v", l)
	}
	if l := c.Lots(); !slices.Equal(l, []api.BulkLot{{Told: [3]int{9, -1, -1}, Waste: to(0, 2)}, {Told: [3]int{-1, 7, 11}, Waste: to(1, 5)}}) {
		t.Errorf("Lots: %v", l)
	}
	if l := c.Bonds(); !slices.Equal(l, []api.BondBond{{Many: 4, Day: 10, Fine: 3}, {Many: 60, Day: 399, Fine: 99}}) {
		t.Errorf("Bonds: %v", l)
	}
	if len(c.Notes()) != 0 {
		t.Errorf("Notes: %v", c.Notes())
	}
	if c.File() != strings.Join(c.Journal(), "\n")+"\n" || len(c.Journal()) != 6 {
		t.Errorf("File: %q", c.File())
	}
}

// TestOpen is of P11.4: files, how many lines of them are done, and the errors in their order.
func TestOpen(t *testing.T) {
	many := strings.Repeat("note 2 5 0 0\n", 8)
	for i, x := range []struct {
		file string
		at   int
		e    api.Errno
	}{
		{"", 0, api.OK}, {"note 2 5 0 0\n", 1, api.OK}, {many, 8, api.OK},
		{strings.Repeat("x", 60001), 0, api.ErrLong}, {strings.Repeat("\n", 60001), 0, api.ErrLong}, {strings.Repeat(many, 600) + "casks\n", 0, api.ErrLong},
		{strings.Repeat("x", 60000), 0, api.ErrForm}, {"x", 0, api.ErrForm}, {"note 2 5 0 0", 0, api.ErrForm}, {"note 2 5 0 0\nnote 2 5 0 0", 0, api.ErrForm}, {"note 2 5 0 0\r", 0, api.ErrForm}, {"\n ", 0, api.ErrForm},
		{strings.Repeat("x", 59999) + "\n", 0, api.ErrClerkLine}, {strings.Repeat("\n", 60000), 0, api.ErrClerkLine}, {many + strings.Repeat("\n", 60000-len(many)), 8, api.ErrClerkLine},
		{"\n", 0, api.ErrClerkLine}, {"note 2 5 0 0\r\n", 0, api.ErrClerkLine}, {"note 2 5 0 0\n\n", 1, api.ErrClerkLine}, {"note 2 5 0 0\n note 2 5 0 0\n", 1, api.ErrClerkLine},
		// lines that ask, whatever they ask
		{"casks\n", 0, api.ErrClerkLine}, {"note 2 5 0 0\nwhere 0\n", 1, api.ErrClerkLine}, {"whose kersey\n", 0, api.ErrClerkLine}, {"where 31\n", 0, api.ErrClerkLine}, {"empty\n", 0, api.ErrClerkLine},
		// lines that return an error
		{"note 2 5 0 0\nbuy kersey 0 1 1\nmoon\n", 1, api.ErrClerkUnknown}, {"note 2 5 0 0\nnote 2 5 0 0\nnote 5 5 0 0\n", 2, api.ErrRange}, {many + "note 4 5 0 0\n", 8, api.ErrFull}, {many + "note 5 5 0 0\n", 8, api.ErrRange}, {"note 4 5 0 0\n", 0, api.ErrClerkFalse}, {"lot 1 - - 6 0 0\nlot 1 9 1 - 0 0\ncasks\n", 1, api.ErrClerkFalse},
	} {
		c, at, e := clerk.Open(setup(), x.file)
		if at != x.at || e != x.e || (c == nil) != (e != api.OK) {
			t.Errorf("Open %d: %v, %d, %d, not %d, %d", i, c, at, e, x.at, x.e)
		}
		if c != nil && (c.File() != x.file || len(c.Journal()) != x.at) {
			t.Errorf("File %d: %q, not %q", i, c.File(), x.file)
		}
	}
}
