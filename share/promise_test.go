package share_test

import (
	"math"
	"math/rand/v2"
	"reflect"
	"slices"
	"testing"

	"huer/api"
	"huer/share"
)

// rounds is how many books each test of a property tries.
const rounds = 300

// TestOrderAgainstSlow is of P8.1 and P8.2: all shares lie in a row, and are taken out of it one by one.
func TestOrderAgainstSlow(t *testing.T) {
	r := chance(1)
	for range rounds {
		b := anyBook(r)
		if l, e := share.Shares(b); !slices.Equal(l, slowShares(b)) || e != api.OK {
			t.Fatalf("Shares of %v: %v, %d, not %v", b, l, e, slowShares(b))
		}
		seed := r.IntN([]int{5, 10000}[r.IntN(2)])
		if l, e := share.Order(b, seed); !slices.Equal(l, slowOrder(b, seed)) || e != api.OK {
			t.Fatalf("Order of %v by %d: %v, %d, not %v", b, seed, l, e, slowOrder(b, seed))
		}
	}
}

// TestNotesAgainstSlow is of P8.3, P8.6 and P8.7: what follows, slowly, from the chapter's definitions.
func TestNotesAgainstSlow(t *testing.T) {
	r := chance(2)
	rights, lone, long := 0, 0, 0
	for range 2 * rounds {
		b := anyBook(r)
		want := slowSeeds(b)
		if l, e := share.Seeds(b); !slices.Equal(l, want) || e != api.OK {
			t.Fatalf("Seeds of %v: %v, %d, not %v", b, l, e, want)
		}
		if is, e := share.Right(b); is != (len(want) > 0) || e != api.OK {
			t.Fatalf("Right of %v: %v, %d", b, is, e)
		}
		wrong := slowWrong(b)
		if l, e := share.Wrong(b); !slices.Equal(l, wrong) || e != api.OK {
			t.Fatalf("Wrong of %v: %v, %d, not %v", b, l, e, wrong)
		}
		if len(wrong) > 1 {
			long++
		}
		n, e := share.Ask(b)
		if len(want) == 0 {
			if n != 0 || e != api.ErrShareFalse {
				t.Fatalf("%v cannot be true, but Ask: %d, %d", b, n, e)
			}
			continue
		}
		rights++
		ask, f := slowAsk(b), api.OK
		if ask < 0 {
			ask, f = 0, api.ErrNone
			lone++
		}
		if n != ask || e != f {
			t.Fatalf("Ask of %v: %d, %d, not %d, %d", b, n, e, ask, f)
		}
	}
	if rights < rounds || rights > 2*rounds*9/10 || lone < rounds/10 || lone > rights/2 || long < rounds/10 {
		t.Errorf("of %d books %d can be true, %d by one number, and %d have two false notes and more", 2*rounds, rights, lone, long)
	}
}

// TestPaysAgainstSlow is of P8.4 and P8.5: what is paid in some truth, and nothing else.
func TestPaysAgainstSlow(t *testing.T) {
	r := chance(3)
	can, cannot := 0, 0
	for range rounds {
		b := anyBook(r)
		all := slowPayments(b)
		spans := slowPays(b)
		for holder, want := range spans {
			f := api.OK
			if len(all) == 0 {
				want, f = api.Span{}, api.ErrShareFalse
			}
			if s, e := share.Pays(b, holder); s != want || e != f {
				t.Fatalf("Pays of %v to %d: %v, %d, not %v, %d", b, holder, s, e, want, f)
			}
		}
		pays := make([]int, len(b.Holders))
		for holder, s := range spans {
			if len(all) > 0 {
				pays[holder] = s.Low + r.IntN(s.High-s.Low+1)
			}
		}
		want := slices.ContainsFunc(all, func(paid []int) bool { return slices.Equal(paid, pays) })
		is, e := share.Can(b, pays)
		if is != want || (e == api.OK) != (len(all) > 0) {
			t.Fatalf("Can of %v, %v: %v, %d, not %v", b, pays, is, e, want)
		}
		if is {
			can++
		} else if e == api.OK {
			cannot++
		}
	}
	if can < rounds/10 || cannot < rounds/10 {
		t.Errorf("of %d payments %d can be, and %d cannot", rounds, can, cannot)
	}
}

// TestPaidOnce is of P8.9: by whichever number was truly drawn, and however many pence there truly were, all pence are paid, each holder wins as many draws as it has shares, what each is paid lies between what is returned, and all of it can be.
func TestPaidOnce(t *testing.T) {
	r := chance(4)
	for range rounds {
		b, x := anyTrueBook(r)
		order, e := share.Order(b, x.seed)
		paid := slowPay(b, x.pence, order)
		if total(paid) != x.pence || e != api.OK {
			t.Fatalf("%v are paid of %v in %v", paid, b, x)
		}
		wins := make([]int, len(b.Holders))
		for _, holder := range order {
			wins[holder]++
		}
		if shares, e := share.Shares(b); !slices.Equal(shares, wins) || e != api.OK {
			t.Fatalf("the shares of %v: %v, %d, but such holders win: %v", b, shares, e, order)
		}
		for holder, pence := range paid {
			if s, e := share.Pays(b, holder); !isIn(pence, s) || e != api.OK {
				t.Fatalf("Pays of %v to %d: %v, %d, but %v in %v", b, holder, s, e, pence, x)
			}
		}
		if is, e := share.Can(b, paid); !is || e != api.OK {
			t.Fatalf("Can of %v, %v: %v, %d, but %v", b, paid, is, e, x)
		}
		// of a single truth all that is paid is known, and together it is all pence
		known := with(b, money(x.pence, x.pence), seed(x.seed, x.seed))
		all := 0
		for holder := range b.Holders {
			s, e := share.Pays(known, holder)
			if s.Low != s.High || e != api.OK {
				t.Fatalf("Pays of %v to %d: %v, %d", known, holder, s, e)
			}
			all += s.Low
		}
		if all != x.pence {
			t.Fatalf("%d are paid of %v", all, known)
		}
	}
}

// TestDrawnAgain is of P8.10: the number by which it was drawn is among those that are returned, and by each of these the draws that were noted are won by the same.
func TestDrawnAgain(t *testing.T) {
	r := chance(5)
	for range rounds {
		b, x := anyTrueBook(r)
		seeds, e := share.Seeds(b)
		if !slices.Contains(seeds, x.seed) || !slices.IsSorted(seeds) || e != api.OK {
			t.Fatalf("Seeds of %v: %v, %d, but %v", b, seeds, e, x)
		}
		if is, e := share.Right(b); !is || e != api.OK {
			t.Fatalf("Right of %v: %v, %d, but %v", b, is, e, x)
		}
		for _, seed := range seeds {
			order, e := share.Order(b, seed)
			again, f := share.Order(b, seed)
			if !isRight(b, order) || !slices.Equal(order, again) || e != api.OK || f != api.OK {
				t.Fatalf("Order of %v by %d: %v, then %v", b, seed, order, again)
			}
		}
	}
}

// TestPennyMore is of P8.11: with a penny more just one holder is paid one penny more.
func TestPennyMore(t *testing.T) {
	r := chance(6)
	for range rounds {
		b, x := anyTrueBook(r)
		x.pence = min(x.pence, api.ShareMoney-1)
		more := 0
		for holder := range b.Holders {
			one, e := share.Pays(with(b, money(x.pence, x.pence), seed(x.seed, x.seed)), holder)
			two, f := share.Pays(with(b, money(x.pence+1, x.pence+1), seed(x.seed, x.seed)), holder)
			if e != api.OK || f != api.OK || two.Low < one.Low {
				t.Fatalf("Pays of %v to %d in %v: %v, %d, with a penny more %v, %d", b, holder, x, one, e, two, f)
			}
			more += two.Low - one.Low
		}
		if more != 1 {
			t.Fatalf("with a penny more all are paid %d more of %v in %v", more, b, x)
		}
	}
}

// TestMustBeFalse is of P8.12: without the notes that are told the book can be true, without fewer, or others that come before them, it cannot.
func TestMustBeFalse(t *testing.T) {
	r := chance(7)
	for range rounds {
		b := anyBook(r)
		wrong, e := share.Wrong(b)
		if is, f := share.Right(with(b, unnoted(wrong...))); !is || e != api.OK || f != api.OK {
			t.Fatalf("without %v, %d, %v cannot be true: %d", wrong, e, b, f)
		}
		for _, list := range listsOf(len(b.Drawn)) {
			if slices.Equal(list, wrong) {
				break
			}
			if is, _ := share.Right(with(b, unnoted(list...))); is {
				t.Fatalf("Wrong of %v: %v, but without %v it can be true", b, wrong, list)
			}
		}
	}
}

// TestOneMoreNoted is of P8.13: no number is in Seeds that was not before, and of the draw that should be asked for no answer leaves more numbers than the worst one for any other draw.
func TestOneMoreNoted(t *testing.T) {
	r := chance(8)
	asked := 0
	for range rounds {
		b := trueBook(r)
		before, e := share.Seeds(b)
		order := slowOrder(b, before[0])
		many := min(len(order), api.ShareDrawn)
		isNoted := func(draw int) bool { return draw < len(b.Drawn) && b.Drawn[draw] != none }
		for draw := range many {
			if isNoted(draw) {
				continue
			}
			for holder := range b.Holders {
				after, f := share.Seeds(with(b, noted(draw, holder)))
				for _, seed := range after {
					if !slices.Contains(before, seed) || e != api.OK || f != api.OK {
						t.Fatalf("Seeds of %v: %v, %d, but once %d won %d: %v, %d", b, before, e, holder, draw, after, f)
					}
				}
			}
		}
		ask, e := share.Ask(b)
		if e != api.OK {
			continue
		}
		most := worst(b, before, ask)
		for draw := range order {
			if worst(b, before, draw) < most {
				t.Fatalf("Ask of %v: %d, which leaves %d, but %d leaves %d", b, ask, most, draw, worst(b, before, draw))
			}
		}
		// as many are left if it is noted, too
		if ask < many && !isNoted(ask) {
			asked++
			left := 0
			for holder := range b.Holders {
				after, _ := share.Seeds(with(b, noted(ask, holder)))
				left = max(left, len(after))
			}
			if left != most {
				t.Fatalf("once the draw %d of %v is noted, %d numbers are left, not %d", ask, b, left, most)
			}
		}
	}
	if asked < rounds/4 {
		t.Errorf("of %d books only %d have a draw to ask for that can be noted", rounds, asked)
	}
}

// TestOnlyRead is of P8.8: arguments are only read, up to the capacity of their lists, and results are new memory.
func TestOnlyRead(t *testing.T) {
	r := chance(9)
	for range rounds {
		b := trueBook(r)
		// room behind the lists, which is not theirs
		holders := append(slices.Clone(b.Holders), owner(-7, 77, 8), owner(9, 9, 9))
		notes := append(slices.Clone(b.Drawn), 77, -78)
		pays := append(slowPayments(b)[0], 99, -98)
		oldHolders, oldNotes, oldPays := slices.Clone(holders), slices.Clone(notes), slices.Clone(pays)
		b.Holders, b.Drawn = holders[:len(b.Holders)], notes[:len(b.Drawn)]
		asked := pays[:len(b.Holders)]
		first := results(b, 5, 0, asked)
		again := results(b, 5, 0, asked)
		for _, x := range first {
			if l, ok := x.([]int); ok {
				for i := range l[:cap(l)] {
					l[:cap(l)][i] = -7
				}
			}
		}
		if !slices.Equal(holders, oldHolders) || !slices.Equal(notes, oldNotes) || !slices.Equal(pays, oldPays) {
			t.Fatalf("the arguments were changed: %v, %v, %v; before %v, %v, %v", holders, notes, pays, oldHolders, oldNotes, oldPays)
		}
		if !reflect.DeepEqual(again, results(b, 5, 0, asked)) {
			t.Fatalf("results of %v share memory", b)
		}
	}
}

// TestSameAgain is of P2: what was called before, and where the arguments lie, makes no difference.
func TestSameAgain(t *testing.T) {
	r := chance(10)
	var books []api.ShareBook
	var before [][]any
	for range rounds {
		b := anyBook(r)
		books, before = append(books, b), append(before, results(b, 9, 0, make([]int, len(b.Holders))))
	}
	for _, i := range r.Perm(len(books)) {
		b := with(books[i])
		if l := results(b, 9, 0, make([]int, len(b.Holders))); !reflect.DeepEqual(l, before[i]) {
			t.Fatalf("the book %v: first %v, then %v", b, before[i], l)
		}
	}
}

// TestNilAndEmpty is of rule R3, for P8.1 to P8.7: there is no difference between a nil list and an empty one.
func TestNilAndEmpty(t *testing.T) {
	for _, pair := range [][2]api.ShareBook{
		{book(drawn()), book(func(b *api.ShareBook) { b.Drawn = []int{} })},
		{book(holders()), book(func(b *api.ShareBook) { b.Holders = []api.ShareHolder{} })},
	} {
		if l, m := results(pair[0], 0, 0, nil), results(pair[1], 0, 0, []int{}); !reflect.DeepEqual(l, m) {
			t.Errorf("nil lists: %v, empty ones: %v", l, m)
		}
	}
}

// wild is a number that is likely to be wrong.
func wild(r *rand.Rand) int {
	numbers := []int{0, 1, 2, 3, 5, 6, 8, 9, 10, 20, 21, 50, 51, 9999, 10000, -1, -2, math.MaxInt, math.MinInt, math.MaxInt32, math.MinInt32, math.MaxInt / 75, 1 << 32}
	return numbers[r.IntN(len(numbers))]
}

// wildList is a list of such numbers, which may be long.
func wildList(r *rand.Rand) []int {
	list := make([]int, r.IntN([]int{4, 10, 100000}[r.IntN(3)]))
	for i := range list[:min(len(list), 20)] {
		list[i] = wild(r)
	}
	return list
}

// wildBook is a book of which some numbers are any.
func wildBook(r *rand.Rand) api.ShareBook {
	b := anyBook(r)
	number := r.IntN(len(b.Holders))
	for _, change := range []func(){
		func() { b.Rates[r.IntN(3)] = wild(r) },
		func() { b.Money = to(wild(r), wild(r)) },
		func() { b.Seed = to(wild(r), wild(r)) },
		func() { b.Drawn = wildList(r) },
		func() { b.Holders[number] = owner(wild(r), wild(r), wild(r)) },
		func() { b.Holders = append(b.Holders, owner(0, 0, 0)) },
		func() { b.Holders = make([]api.ShareHolder, r.IntN(100000)) },
		func() { b.Holders = nil },
	} {
		if r.IntN(10) == 0 {
			change()
		}
	}
	return b
}

// TestAnyArguments is of P1: every function ends, without a panic, and with an error all other results are zero values.
func TestAnyArguments(t *testing.T) {
	r := chance(11)
	for range 10 * rounds {
		b, seed, holder, pays := wildBook(r), wild(r), wild(r), wildList(r)
		l := results(b, seed, holder, pays)
		for i := 2; i < len(l); i += 2 {
			v := reflect.ValueOf(l[i-1])
			if l[i] != api.OK && !v.IsZero() && (v.Kind() != reflect.Slice || v.Len() > 0) {
				t.Fatalf("the book %v, asked %d, %d: %v", b, seed, holder, l)
			}
		}
	}
}

// TestMostWork is of P1: the books that take the longest end soon, too.
func TestMostWork(t *testing.T) {
	most := api.ShareBook{
		Rates: [3]int{1, 1, 1}, Holders: slices.Repeat([]api.ShareHolder{owner(5, 5, 2)}, 5),
		Money: to(9979, 9999), Seed: to(9949, 9999),
	}
	if l, e := share.Shares(most); !slices.Equal(l, []int{12, 12, 12, 12, 12}) || e != api.OK {
		t.Fatalf("Shares: %v, %d", l, e)
	}
	if n, e := share.Ask(most); n != slowAsk(most) || e != api.OK {
		t.Errorf("Ask: %d, %d", n, e)
	}
	for holder, want := range slowPays(most) {
		if s, e := share.Pays(most, holder); s != want || e != api.OK {
			t.Errorf("Pays to %d: %v, %d, not %v", holder, s, e, want)
		}
	}
	// notes that are false by each number: the sixth holder has no share
	most.Holders = append(most.Holders, owner(0, 0, 0))
	most.Drawn = slices.Repeat([]int{5}, 8)
	if l, e := share.Wrong(most); !slices.Equal(l, []int{0, 1, 2, 3, 4, 5, 6, 7}) || e != api.OK {
		t.Errorf("Wrong: %v, %d", l, e)
	}
}
