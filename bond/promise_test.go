package bond_test

import (
	"math"
	"math/rand/v2"
	"reflect"
	"slices"
	"testing"

	"huer/api"
	"huer/bond"
)

// rounds is how many books each test of a property tries.
const rounds = 200

// TestAgainstSlow is of P7.1 to P7.3: all that is told is so in a truth, and no truth has less or more.
func TestAgainstSlow(t *testing.T) {
	r := chance(1)
	rights, wide := 0, 0
	for range 2 * rounds {
		b, all := smallBook(r, 6, true)
		s, e := seen(b)
		if len(all) == 0 {
			if e != api.ErrBondFalse {
				t.Fatalf("%v cannot be true, but %v, %d", b, s, e)
			}
			continue
		}
		rights++
		if want := slow(b, all); !s.same(want) || e != api.OK {
			t.Fatalf("what is told of %v: %v, %d, not %v", b, s, e, want)
		}
		if s.short.Low < s.short.High {
			wide++
		}
	}
	if rights < rounds/2 || rights > 2*rounds*9/10 || wide < rounds/10 {
		t.Errorf("of %d books %d can be true, %d of which fall short by more or less", 2*rounds, rights, wide)
	}
}

// trueBook is a valid book that can be true, and its truths.
func trueBook(r *rand.Rand, most int) (api.BondBook, [][]int) { return smallBook(r, most, false) }

// TestSellAgainstSlow is of P7.4: the number that follows, slowly, from the chapter's definition.
func TestSellAgainstSlow(t *testing.T) {
	r := chance(2)
	some := 0
	for range rounds {
		b, all := trueBook(r, 4)
		day := r.IntN(12)
		want := slowSell(b, all, day)
		if n, e := bond.Sell(b, day); n != want || e != api.OK {
			t.Fatalf("Sell of %v on %d: %d, %d, not %d", b, day, n, e, want)
		}
		some += min(want, 1)
	}
	if some < rounds/5 {
		t.Errorf("of %d books only %d can sell some", rounds, some)
	}
}

// TestLaterAgainstSlow is of P7.5: the day that follows, slowly, from the chapter's definition.
func TestLaterAgainstSlow(t *testing.T) {
	r := chance(3)
	var kinds [3]int // none, its own day, and a later one
	for range rounds {
		b, all := trueBook(r, 6)
		for number, s := range b.Bonds {
			want, none := slowLater(b, all, number), api.OK
			switch want {
			case -1:
				kinds[0]++
				want, none = 0, api.ErrNone
			case s.Day:
				kinds[1]++
			default:
				kinds[2]++
			}
			if n, e := bond.Later(b, number); n != want || e != none {
				t.Fatalf("Later of %v, %d: %d, %d, not %d, %d", b, number, n, e, want, none)
			}
		}
	}
	if slices.Min(kinds[:]) < rounds/5 {
		t.Errorf("so many bonds get all with no day, their own, a later one: %v", kinds)
	}
}

// TestDropAgainstSlow is of P7.6: the list that follows, slowly, from the chapter's definition.
func TestDropAgainstSlow(t *testing.T) {
	r := chance(4)
	var long [4]int
	for range rounds {
		b, all := trueBook(r, 6)
		want := slowDrop(b, all)
		if l, e := bond.Drop(b); !slices.Equal(l, want) || e != api.OK {
			t.Fatalf("Drop of %v: %v, %d, not %v", b, l, e, want)
		}
		long[min(len(want), 3)]++
	}
	if slices.Min(long[:]) < rounds/20 {
		t.Errorf("so many lists have so many bonds: %v", long)
	}
}

func isIn(number int, s api.Span) bool { return s.Low <= number && number <= s.High }

// TestToTheLast is of P7.8: whatever there truly is, what each bond gets, and what falls short, and is paid, lies between what is told.
func TestToTheLast(t *testing.T) {
	r := chance(5)
	for range 2 * rounds {
		b, there := anyTrueBook(r, r.IntN(7))
		s, e := seen(b)
		if e != api.OK {
			t.Fatalf("what is told of %v: %v, %d, but %v", b, s, e, there)
		}
		for i, day := range seenDays {
			if !isIn(casksOn(b, there, day), s.casks[i]) {
				t.Fatalf("Casks of %v on %d: %v, but %v", b, day, s.casks[i], there)
			}
		}
		short, fines := 0, 0
		for i, many := range slowGets(b, there) {
			if !isIn(many, s.gets[i]) {
				t.Fatalf("Gets of %v, %d: %v, but %d of %v", b, i, s.gets[i], many, there)
			}
			short += b.Bonds[i].Many - many
			fines += (b.Bonds[i].Many - many) * b.Bonds[i].Fine
		}
		if !isIn(short, s.short) || !isIn(fines, s.fines) {
			t.Fatalf("Short, Fines of %v: %v, %v, but %d, %d of %v", b, s.short, s.fines, short, fines, there)
		}
	}
}

// allGets is what all bonds get, of a book of which it is known how many hogsheads there are.
func allGets(t *testing.T, b api.BondBook) []int {
	t.Helper()
	var list []int
	for i := range b.Bonds {
		s, e := bond.Gets(b, i)
		if s.Low != s.High || e != api.OK {
			t.Fatalf("Gets of %v, %d: %v, %d", b, i, s, e)
		}
		list = append(list, s.Low)
	}
	return list
}

// TestNoMoreThanThere is of P7.8: on no day of the year more are shipped than there are, and no bond gets more than its Many.
func TestNoMoreThanThere(t *testing.T) {
	r := chance(6)
	for range rounds {
		b, there := knownBook(r, 6, false)
		gets := allGets(t, b)
		for day := range 400 {
			if many := casksOn(b, there, day); shipped(b, gets, day) > many {
				t.Fatalf("on %d of %v %v are shipped, but there are %d", day, b, gets, many)
			}
		}
		for i, many := range gets {
			if !isIn(many, to(0, b.Bonds[i].Many)) {
				t.Fatalf("the bonds of %v get %v", b, gets)
			}
		}
	}
}

// TestInOrder is of P7.9: a bond more, or the bonds behind one, change nothing of those before them.
func TestInOrder(t *testing.T) {
	r := chance(7)
	for range rounds {
		b, _ := anyTrueBook(r, r.IntN(6))
		longer := with(b, more(sold(1+r.IntN(60), r.IntN(12), r.IntN(100))))
		for i := range b.Bonds {
			alone := with(b, bonds(b.Bonds[:i+1]...))
			s, e := bond.Gets(b, i)
			m, f := bond.Gets(longer, i)
			a, g := bond.Gets(alone, i)
			if s != m || s != a || e != api.OK || f != api.OK || g != api.OK {
				t.Fatalf("Gets of %v, %d: %v, %d; with one more %v, %d; without those behind %v, %d", b, i, s, e, m, f, a, g)
			}
		}
	}
}

// isNoLess tells whether a span has neither end below that of another one.
func isNoLess(one, other api.Span) bool { return one.Low >= other.Low && one.High >= other.High }

// TestLaterIsBetter is of P7.10: with a later Day a bond gets no fewer, nor with a bond less before it.
func TestLaterIsBetter(t *testing.T) {
	r := chance(8)
	later, less := 0, 0
	for range rounds {
		b, _ := anyTrueBook(r, 1+r.IntN(6))
		number := r.IntN(len(b.Bonds))
		before, e := bond.Gets(b, number)
		s := b.Bonds[number]
		s.Day += r.IntN(12)
		if after, f := bond.Gets(with(b, nth(number, s)), number); !isNoLess(after, before) || e != api.OK || f != api.OK {
			t.Fatalf("Gets of %v, %d: %v, %d; on %d %v, %d", b, number, before, e, s.Day, after, f)
		} else if after != before {
			later++
		}
		if number == 0 {
			continue
		}
		gone := r.IntN(number)
		if after, f := bond.Gets(with(b, dropped(gone)), number-1); !isNoLess(after, before) || f != api.OK {
			t.Fatalf("Gets of %v, %d: %v, %d; without %d %v, %d", b, number, before, e, gone, after, f)
		} else if after != before {
			less++
		}
	}
	if later < rounds/20 || less < rounds/20 {
		t.Errorf("of %d bonds %d get more with a later day, %d without a bond before", rounds, later, less)
	}
}

// TestReadySooner is of P7.10: with a lot that is ready sooner all bonds together fall no farther short, though one of them can.
func TestReadySooner(t *testing.T) {
	r := chance(9)
	closer, farther := 0, 0
	for range 3 * rounds {
		b, _ := anyTrueBook(r, r.IntN(7))
		if len(b.Ready) == 0 {
			continue
		}
		sooner := with(b)
		number := r.IntN(len(b.Ready))
		sooner.Ready[number] = r.IntN(b.Ready[number] + 1)
		before, e := bond.Short(b)
		after, f := bond.Short(sooner)
		if !isNoLess(before, after) || e != api.OK || f != api.OK {
			t.Fatalf("Short of %v: %v, %d; of %v: %v, %d", b, before, e, sooner, after, f)
		}
		if before != after {
			closer++
		}
		for i := range b.Bonds {
			s, _ := bond.Gets(b, i)
			if m, _ := bond.Gets(sooner, i); m.Low < s.Low {
				farther++
			}
		}
	}
	if closer < rounds/20 || farther == 0 {
		t.Errorf("of the books %d fall less short, and %d bonds farther", closer, farther)
	}
	b := known([]int{5}, []int{2}, sold(5, 1, 1), sold(5, 2, 1))
	if l, m := allGets(t, b), allGets(t, with(b, ready(1))); !slices.Equal(l, []int{0, 5}) || !slices.Equal(m, []int{5, 0}) {
		t.Errorf("of the lot that is ready on 2, on 1: %v, %v", l, m)
	}
}

// TestAsManyAsAny is of P7.11: all bonds together get as many hogsheads as any shipping has.
func TestAsManyAsAny(t *testing.T) {
	r := chance(10)
	for range rounds {
		b, there := knownBook(r, 5, true)
		total := 0
		for _, many := range allGets(t, b) {
			total += many
		}
		if most := mostShipped(b, there); total != most {
			t.Fatalf("the bonds of %v get %d, but a shipping has %d", b, total, most)
		}
	}
}

// TestSold is of P7.12: as many hogsheads as are told can be sold; one more cannot surely be delivered.
func TestSold(t *testing.T) {
	r := chance(11)
	for range rounds {
		b, _ := anyTrueBook(r, r.IntN(6))
		day, last := r.IntN(12), len(b.Bonds)
		many, e := bond.Sell(b, day)
		if e != api.OK {
			t.Fatalf("Sell of %v on %d: %d, %d", b, day, many, e)
		}
		if l, f := bond.Full(with(b, more(sold(max(many, 1), day, 1)))); slices.Contains(l, last) != (many > 0) || f != api.OK {
			t.Fatalf("Sell of %v on %d: %d, but Full: %v, %d", b, day, many, l, f)
		}
		if many == 60 {
			continue
		}
		if l, f := bond.Full(with(b, more(sold(many+1, day, 1)))); slices.Contains(l, last) || f != api.OK {
			t.Fatalf("Sell of %v on %d: %d, but Full with one more: %v, %d", b, day, many, l, f)
		}
	}
}

// TestBetterNotMade is of P7.13: without the bonds that are told all others surely get what they bought; without fewer they do not.
func TestBetterNotMade(t *testing.T) {
	r := chance(12)
	for range rounds {
		b, _ := anyTrueBook(r, r.IntN(7))
		drop, e := bond.Drop(b)
		for _, list := range listsOf(len(b.Bonds)) {
			rest := with(b, dropped(list...))
			l, f := bond.Full(rest)
			is := len(l) == len(rest.Bonds)
			if is != slices.Equal(list, drop) || e != api.OK || f != api.OK {
				t.Fatalf("Drop of %v: %v, %d, but without %v Full: %v, %d", b, drop, e, list, l, f)
			}
			if is {
				break
			}
		}
	}
}

// TestOnlyRead is of P7.7: arguments are only read, up to the capacity of their lists, and results are new memory.
func TestOnlyRead(t *testing.T) {
	r := chance(13)
	for range rounds / 2 {
		b, _ := anyTrueBook(r, r.IntN(7))
		// room behind each list, which is not the book's
		all := with(b, more(sold(77, 78, 79)), more(sold(-7, -8, -9)))
		all.Bulk.Lots = append(all.Bulk.Lots, lot(to(9, 8), 77, 78, 79))
		all.Ready = append(all.Ready, 77, -7)
		b.Bulk.Lots, b.Ready, b.Bonds = all.Bulk.Lots[:len(b.Bulk.Lots)], all.Ready[:len(b.Ready)], all.Bonds[:len(b.Bonds)]
		old := with(all)
		first := results(b, 0, 5)
		again := results(b, 0, 5)
		for _, x := range first {
			if l, ok := x.([]int); ok {
				for i := range l[:cap(l)] {
					l[:cap(l)][i] = -7
				}
			}
		}
		if !reflect.DeepEqual(all, old) {
			t.Fatalf("the book was changed: %v; before %v", all, old)
		}
		if !reflect.DeepEqual(again, results(b, 0, 5)) {
			t.Fatalf("results of %v share memory", b)
		}
	}
}

// TestSameAgain is of P2: what was called before, and where the arguments lie, makes no difference.
func TestSameAgain(t *testing.T) {
	r := chance(14)
	var books []api.BondBook
	var before [][]any
	for range rounds / 2 {
		b, _ := anyTrueBook(r, r.IntN(7))
		books, before = append(books, b), append(before, results(b, 1, 6))
	}
	for _, i := range r.Perm(len(books)) {
		if l := results(with(books[i]), 1, 6); !reflect.DeepEqual(l, before[i]) {
			t.Fatalf("the book %v: first %v, then %v", books[i], before[i], l)
		}
	}
}

// TestNilAndEmpty is of rule R3, for P7.1 to P7.6: there is no difference between a nil list and an empty one.
func TestNilAndEmpty(t *testing.T) {
	bare := known(nil, nil)
	full := with(bare, func(b *api.BondBook) { b.Bulk.Lots, b.Ready, b.Bonds = []api.BulkLot{}, []int{}, []api.BondBond{} })
	if l, m := results(bare, 0, 0), results(full, 0, 0); !reflect.DeepEqual(l, m) {
		t.Errorf("nil lists: %v, empty ones: %v", l, m)
	}
	if l, m := results(book(), 0, 20), results(own(bonds([]api.BondBond{}...)), 0, 20); !reflect.DeepEqual(l, m) {
		t.Errorf("nil bonds: %v, empty ones: %v", l, m)
	}
}

// wild is a number that is likely to be wrong.
func wild(r *rand.Rand) int {
	numbers := []int{0, 1, 2, 3, 5, 6, 7, 9, 10, 60, 61, 99, 100, 399, 400, -1, -2, math.MaxInt, math.MinInt, math.MaxInt32, math.MinInt32, math.MaxInt / 2, 1 << 32}
	return numbers[r.IntN(len(numbers))]
}

// wildBook is a book of which some numbers are any.
func wildBook(r *rand.Rand) api.BondBook {
	b, _ := anyTrueBook(r, r.IntN(7))
	for _, change := range []func(){
		func() { b.Bulk.Holds[r.IntN(3)] = to(wild(r), wild(r)) },
		func() { b.Bulk.Error[r.IntN(3)] = wild(r) },
		func() { b.Bulk.Lots = append(b.Bulk.Lots, lot(to(wild(r), wild(r)), wild(r), wild(r), wild(r))) },
		func() { b.Bulk.Lots = make([]api.BulkLot, r.IntN(100000)) },
		func() { b.Ready = append(b.Ready, wild(r)) },
		func() { b.Ready = make([]int, 100000) },
		func() { b.Ready = nil },
		func() { b.Bonds = append(b.Bonds, sold(wild(r), wild(r), wild(r))) },
		func() { b.Bonds = append(b.Bonds, sold(wild(r), 5, 5)) },
		func() { b.Bonds = append(b.Bonds, sold(5, wild(r), 5)) },
		func() { b.Bonds = make([]api.BondBond, 100000) },
	} {
		if r.IntN(12) == 0 {
			change()
		}
	}
	return b
}

// TestAnyArguments is of P1: every function ends, without a panic, and with an error all other results are zero values.
func TestAnyArguments(t *testing.T) {
	r := chance(15)
	for range 500 {
		b, number, day := wildBook(r), wild(r), wild(r)
		l := results(b, number, day)
		for i := 2; i < len(l); i += 2 {
			if v := reflect.ValueOf(l[i-1]); l[i] != api.OK && !v.IsZero() {
				t.Fatalf("the book %v, asked %d, %d: %v", b, number, day, l)
			}
		}
	}
}

// TestMostWork is of P1: the books that take the longest end soon, too.
func TestMostWork(t *testing.T) {
	wide := to(6, 9)
	b := api.BondBook{
		Bulk:  api.BulkBook{Holds: [3]api.Span{wide, wide, wide}, Error: [3]int{9, 9, 9}, Lots: slices.Repeat([]api.BulkLot{lot(to(0, 5), 40, none, none)}, 4)},
		Ready: []int{1, 2, 3, 4}, Bonds: slices.Repeat([]api.BondBond{sold(60, 0, 99)}, 6),
	}
	// 31 to 49 barrows, the first of which hold 6 and leave 176 of the 181 hundreds to hogsheads of 9
	if s, e := bond.Casks(b, 399); s != to(80, 268) || e != api.OK {
		t.Errorf("Casks: %v, %d", s, e)
	}
	if n, e := bond.Later(b, 0); n != 3 || e != api.OK {
		t.Errorf("Later: %d, %d", n, e)
	}
	if l, e := bond.Drop(b); !slices.Equal(l, []int{0, 1, 2, 3, 4, 5}) || e != api.OK {
		t.Errorf("Drop: %v, %d", l, e)
	}
	if s, e := bond.Fines(b); s != just(360*99) || e != api.OK {
		t.Errorf("Fines: %v, %d", s, e)
	}
	b = with(b, nth(0, sold(60, 399, 99)))
	if n, e := bond.Later(b, 1); n != 0 || e != api.ErrNone {
		t.Errorf("Later: %d, %d", n, e)
	}
	if n, e := bond.Sell(b, 399); n != 20 || e != api.OK {
		t.Errorf("Sell: %d, %d", n, e)
	}
}
