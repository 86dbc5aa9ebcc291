package watch_test

import (
	"math"
	"math/rand/v2"
	"reflect"
	"slices"
	"testing"

	"huer/api"
	"huer/cry"
	"huer/turn"
	"huer/watch"
)

// rounds is how many books each test of a property tries.
const rounds = 120

// answers are all that can be asked of a book's stations and minutes: In, Shot and Quarrel of each post, and the rest once.
type answers struct {
	in       [][31]int
	shot     [][31][2]int
	quarrel  [][31][]int
	squares  [][]int
	may, man [][]int
	soon     [2]int
	lost     int
}

// blank are answers for so many stations.
func blank(many int) answers {
	return answers{in: make([][31]int, many), shot: make([][31][2]int, many), quarrel: make([][31][]int, many), squares: make([][]int, many)}
}

// answered are the answers of the package to a book that can be true.
func answered(t *testing.T, b api.WatchBook) answers {
	t.Helper()
	a := blank(len(b.Grounds))
	var e [5]api.Errno
	for s := range b.Grounds {
		a.squares[s], e[0] = watch.Squares(b, s)
		for m := range 31 {
			a.in[s][m], e[1] = watch.In(b, s, m)
			company, at, f := watch.Shot(b, s, m)
			a.shot[s][m] = [2]int{company, at}
			if f == api.ErrNone {
				a.shot[s][m], f = none, api.OK
			}
			e[2] = f
			a.quarrel[s][m], e[3] = watch.Quarrel(b, s, m)
			if e != [5]api.Errno{} {
				t.Fatalf("what is told of %v at %d, %d: %v", b, s, m, e)
			}
		}
		for company := range b.Nets {
			l, e := watch.May(b, s, company)
			a.may = append(a.may, l)
			if e != api.OK {
				t.Fatalf("May of %v at %d, %d: %d", b, s, company, e)
			}
		}
		l, e := watch.Man(b, s+1)
		a.man = append(a.man, l)
		if e != api.OK {
			t.Fatalf("Man of %v, %d: %d", b, s+1, e)
		}
	}
	minute, station, f := watch.Soon(b)
	a.soon = [2]int{minute, station}
	if f == api.ErrNone {
		a.soon, f = none, api.OK
	}
	lost, g := watch.Lost(b)
	a.lost = lost
	if g == api.ErrNone {
		a.lost, g = -1, api.OK
	}
	if f != api.OK || g != api.OK {
		t.Fatalf("Soon, Lost of %v: %d, %d", b, f, g)
	}
	return a
}

// slowly are the answers that follow from the chapter's definitions.
func (k known) slowly() answers {
	a := blank(len(k.Grounds))
	for s := range k.Grounds {
		a.squares[s] = k.squares(s)
		for m := range 31 {
			a.in[s][m], a.shot[s][m], a.quarrel[s][m] = k.in(s, m), k.shot(s, m), k.quarrel(s, m)
		}
		for company := range k.Nets {
			a.may = append(a.may, k.may(s, company))
		}
	}
	for s := range k.Grounds {
		a.man = append(a.man, k.man(s+1))
	}
	a.soon, a.lost = k.soon(), k.lost()
	return a
}

// plain are answers without a difference between nil lists and empty ones.
func plain(lists [][]int) [][]int {
	var all [][]int
	for _, l := range lists {
		all = append(all, append([]int{}, l...))
	}
	return all
}

// same tells whether all answers are.
func same(a, b answers) bool {
	for s := range a.in {
		if !reflect.DeepEqual(plain(a.quarrel[s][:]), plain(b.quarrel[s][:])) {
			return false
		}
	}
	for _, lists := range [][2][][]int{{a.squares, b.squares}, {a.may, b.may}, {a.man, b.man}} {
		if !reflect.DeepEqual(plain(lists[0]), plain(lists[1])) {
			return false
		}
	}
	return reflect.DeepEqual(a.in, b.in) && reflect.DeepEqual(a.shot, b.shot) && a.soon == b.soon && a.lost == b.lost
}

// TestAgainstSlow is of P9.1 to P9.8: all answers are those that follow, slowly, from the chapter's definitions.
func TestAgainstSlow(t *testing.T) {
	r := chance(1)
	var in [3]int
	shots, soon, late, quarrels, lost, strays := 0, 0, 0, 0, 0, 0
	for range rounds {
		b, _ := anyTrueBook(r)
		a, want := answered(t, b), knownOf(b).slowly()
		if !same(a, want) {
			t.Fatalf("what is told of %v: %v, not %v", b, a, want)
		}
		for s := range a.in {
			for m := range 31 {
				in[a.in[s][m]]++
				shots += btoi(a.shot[s][m] != none)
				quarrels += btoi(len(a.quarrel[s][m]) > 0)
			}
		}
		soon += btoi(a.soon != none)
		late += btoi(a.soon[0] > 0)
		lost += btoi(a.lost == 0)
		strays += btoi(a.lost > 0)
	}
	if slices.Min(in[:]) < 5*rounds || shots < 2*rounds || quarrels < rounds || soon < rounds/8 || late < rounds/16 || lost < rounds/40 || strays < rounds/40 {
		t.Errorf("In told %v, %d shots, %d quarrels; of %d books %d have a shot, %d of them later, %d and %d lose the shoal at once, and later", in, shots, quarrels, rounds, soon, late, lost, strays)
	}
}

// btoi is 1 for what is so, and 0 for what is not.
func btoi(is bool) int {
	if is {
		return 1
	}
	return 0
}

// TestManAgainstSlow is of P9.7: lists of two, where minutes that count once make a difference.
func TestManAgainstSlow(t *testing.T) {
	r := chance(2)
	var first, other int
	for range 2 * rounds {
		b := busyBook(r)
		k := knownOf(b)
		for many := 1; many <= len(b.Grounds); many++ {
			want := k.man(many)
			if l, e := watch.Man(b, many); !slices.Equal(l, want) || e != api.OK {
				t.Fatalf("Man of %v, %d: %v, %d, not %v", b, many, l, e, want)
			}
			if slices.Equal(want, run(0, many-1)) {
				first++
			} else {
				other++
			}
		}
	}
	if first < rounds/2 || other < rounds/2 {
		t.Errorf("%d lists are the first ones, %d others", first, other)
	}
}

// busyBook is a book of two or three stations, at which shots come and go with turns: the shoal does not swim, and it is known where it is, but not all companies and stations can inclose it.
func busyBook(r *rand.Rand) api.WatchBook {
	b := api.WatchBook{Cry: api.CryBook{Wide: 3, High: 1, Land: []int{0, 2}}, Start: 500}
	b.Turn = api.TurnBook{Companies: 3}
	minute := 500
	for range 2 + r.IntN(3) {
		minute += 1 + r.IntN(8)
		b.Turn.Bounds = append(b.Turn.Bounds, to(minute, minute+r.IntN(3)))
		minute += 2
	}
	for range 2 + r.IntN(2) {
		var order []int
		for range len(b.Turn.Bounds) + 1 {
			order = append(order, r.IntN(3))
		}
		b.Turn.Orders = append(b.Turn.Orders, order)
		b.Grounds = append(b.Grounds, []api.WatchGround{square(0, 3, 1), square(1, 1, 1), square(0, 2, 1)}[r.IntN(3)])
	}
	b.Nets = []api.WatchNet{seine(1, 1), seine(2, 1), seine(1, 2)}
	return b
}

// TestFalseBooks is of P9.2 to P9.8: books whose cries cannot all be right have their error, and others do not.
func TestFalseBooks(t *testing.T) {
	const ok, no, not = api.OK, api.ErrNone, api.ErrWatchFalse
	r := chance(3)
	right := 0
	for range rounds {
		b := anyBook(r)
		list := errorsOf(results(b, 0, r.IntN(31), 0, 1))
		if knownOf(b).isRight() {
			right++
			if slices.Contains(list, not) {
				t.Fatalf("the book %v can be true, but %v", b, list)
			}
		} else if want := []api.Errno{ok, ok, not, not, not, not, ok, not, not}; !slices.Equal(list, want) {
			t.Fatalf("the book %v cannot be true, but %v", b, list)
		}
	}
	if right < rounds/5 || right > rounds*4/5 {
		t.Errorf("of %d books %d can be true", rounds, right)
	}
}

// TestTurnOfTheShot is of P9.10: wherever the shoal truly swims, and whenever turns truly change.
func TestTurnOfTheShot(t *testing.T) {
	r := chance(4)
	shots := 0
	for range rounds {
		b, x := anyTrueBook(r)
		for s := range b.Grounds {
			for m, where := range x.path {
				company, at, e := watch.Shot(b, s, m)
				if e == api.ErrNone {
					continue
				}
				shots++
				n := b.Nets[company]
				if e != api.OK || owner(b, x.bounds, s, m) != company || !incloses(b, at, n.Wide, n.High, where) || !isIn(b, s, where) || !isIn(b, s, at) {
					t.Fatalf("Shot of %v at %d, %d: %d, %d, %d, but truly %v", b, s, m, company, at, e, x)
				}
			}
		}
	}
	if shots < 2*rounds {
		t.Errorf("only %d shots", shots)
	}
}

// TestTrueShoal is of P9.2, P9.5 and P9.8: what truly is so is told to be so, or that it can be.
func TestTrueShoal(t *testing.T) {
	r := chance(5)
	for range rounds / 2 {
		b, x := anyTrueBook(r)
		lost, e := watch.Lost(b)
		for s := range b.Grounds {
			may := make([][]int, b.Turn.Companies)
			for company := range may {
				may[company], _ = watch.May(b, s, company)
			}
			for m, where := range x.path {
				n, _ := watch.In(b, s, m)
				is := isIn(b, s, where)
				if is && n == 0 || !is && n == 2 {
					t.Fatalf("In of %v at %d, %d: %d, but truly %v", b, s, m, n, x)
				}
				if is && !slices.Contains(may[owner(b, x.bounds, s, m)], m) {
					t.Fatalf("May of %v at %d: %v, but truly %v", b, s, may, x)
				}
				if is && e == api.OK && m >= lost {
					t.Fatalf("Lost of %v: %d, but truly %v", b, lost, x)
				}
			}
		}
	}
}

// TestOneCryMore is of P9.11: a cry more leaves each sure shot, and each ground that the shoal surely is in, or is not in.
func TestOneCryMore(t *testing.T) {
	r := chance(6)
	var kept, moved, sharper int
	for range rounds {
		b, x := anyTrueBook(r)
		if len(b.Cry.Cries) == 8 {
			b.Cry.Cries = b.Cry.Cries[:7]
		}
		longer := with(b, cried(sharply(r, b.Cry, x.path)))
		for s := range b.Grounds {
			for m := range 31 {
				in, _ := watch.In(b, s, m)
				after, f := watch.In(longer, s, m)
				if in != 1 && after != in || f != api.OK {
					t.Fatalf("In of %v at %d, %d: %d; with a cry more %d, %d", b, s, m, in, after, f)
				}
				sharper += btoi(in != after)
				company, at, e := watch.Shot(b, s, m)
				if e != api.OK {
					continue
				}
				kept++
				other, where, f := watch.Shot(longer, s, m)
				if company != other || f != api.OK {
					t.Fatalf("Shot of %v at %d, %d: %d, %d; with a cry more %d, %d", b, s, m, company, at, other, f)
				}
				moved += btoi(at != where)
			}
		}
	}
	if kept < rounds || moved < rounds/40 || sharper < rounds/2 {
		t.Errorf("%d shots are left, %d of them at other squares, %d grounds are better known", kept, moved, sharper)
	}
}

// TestQuarrelHasNoShot is of P9.12: where a quarrel hangs on bounds nobody surely can shoot; where it hangs on none one company has the turn.
func TestQuarrelHasNoShot(t *testing.T) {
	r := chance(7)
	var some, nothing int
	for range rounds {
		b, _ := anyTrueBook(r)
		for s := range b.Grounds {
			for m := range 31 {
				list, _ := watch.Quarrel(b, s, m)
				owners, _ := turn.Owners(b.Turn, s, b.Start+m)
				_, _, e := watch.Shot(b, s, m)
				if len(list) > 0 {
					some++
				} else {
					nothing++
				}
				if len(list) > 0 && e != api.ErrNone || len(list) == 0 && len(owners) != 1 {
					t.Fatalf("Quarrel of %v at %d, %d: %v, but Shot: %d, and the turn is of %v", b, s, m, list, e, owners)
				}
			}
		}
	}
	if some < rounds || nothing < rounds {
		t.Errorf("%d quarrels hang on bounds, %d on none", some, nothing)
	}
}

// TestOneCanShoot is of P9.13: no other company surely can shoot, and the one that can may, too.
func TestOneCanShoot(t *testing.T) {
	r := chance(8)
	for range rounds / 5 {
		b, _ := anyTrueBook(r)
		k := knownOf(b)
		for s := range b.Grounds {
			for m := range 31 {
				company, _, e := watch.Shot(b, s, m)
				for other := range b.Nets {
					can := slices.ContainsFunc(run(0, b.Cry.Wide*b.Cry.High-1), func(at int) bool { return k.can(s, m, other, at) })
					if can != (e == api.OK && other == company) {
						t.Fatalf("Shot of %v at %d, %d: %d, %d, but of %d %v", b, s, m, company, e, other, can)
					}
				}
				if may, _ := watch.May(b, s, company); e == api.OK && !slices.Contains(may, m) {
					t.Fatalf("Shot of %v at %d, %d: %d, but May %v", b, s, m, company, may)
				}
			}
		}
	}
}

// TestMostMinutes is of P9.14: of any other stations, as many, no more minutes have a sure shot.
func TestMostMinutes(t *testing.T) {
	r := chance(9)
	fewer := 0
	for range rounds {
		b := busyBook(r)
		minutes := func(stations []int) int {
			return len(slices.DeleteFunc(run(0, 30), func(m int) bool {
				return !slices.ContainsFunc(stations, func(s int) bool {
					_, _, e := watch.Shot(b, s, m)
					return e == api.OK
				})
			}))
		}
		many := 1 + r.IntN(len(b.Grounds))
		told, e := watch.Man(b, many)
		most := minutes(told)
		for _, list := range lists(len(b.Grounds), many) {
			n := minutes(list)
			if n > most || n == most && slices.Compare(list, told) < 0 || e != api.OK {
				t.Fatalf("Man of %v, %d: %v, %d, with %d minutes, but %v has %d", b, many, told, e, most, list, n)
			}
			fewer += btoi(n < most)
		}
	}
	if fewer < rounds/2 {
		t.Errorf("only %d lists have fewer minutes", fewer)
	}
}

// TestNobodyShootsWhatIsLost is of P9.15: from the minute that is told on nobody can shoot; at the one before it the shoal can be in a ground.
func TestNobodyShootsWhatIsLost(t *testing.T) {
	r := chance(10)
	var lost, later int
	for range rounds {
		b, _ := anyTrueBook(r)
		first, e := watch.Lost(b)
		if e == api.ErrNone {
			first = 31
		}
		lost += btoi(first == 0)
		later += btoi(first > 0 && first < 31)
		seen := first == 0
		for s := range b.Grounds {
			for m := first; m < 31; m++ {
				if _, _, f := watch.Shot(b, s, m); f != api.ErrNone {
					t.Fatalf("Lost of %v: %d, %d, but Shot at %d, %d: %d", b, first, e, s, m, f)
				}
			}
			for company := range b.Nets {
				if l, _ := watch.May(b, s, company); len(l) > 0 && l[len(l)-1] >= first {
					t.Fatalf("Lost of %v: %d, %d, but May at %d, %d: %v", b, first, e, s, company, l)
				}
			}
			if first > 0 {
				n, _ := watch.In(b, s, first-1)
				seen = seen || n > 0
			}
		}
		if !seen {
			t.Fatalf("Lost of %v: %d, %d, but the shoal is in no ground at the minute before", b, first, e)
		}
	}
	if lost < rounds/20 || later < rounds/40 {
		t.Errorf("%d books lose the shoal at once, %d later", lost, later)
	}
}

// TestOfTheLowerLayers is of the chapter's definitions: books are valid, and can be true, as packages cry and turn have it, and the shoal is where package cry tells.
func TestOfTheLowerLayers(t *testing.T) {
	r := chance(11)
	for range rounds / 2 {
		b := anyBook(r)
		right, _ := cry.Right(b.Cry)
		minute := r.IntN(31)
		where, _ := cry.Where(b.Cry, minute)
		b.Grounds[0] = square(0, b.Cry.Wide, b.Cry.High)
		n, e := watch.In(b, 0, minute)
		if right && (n != 2 || e != api.OK) || !right && e != api.ErrWatchFalse {
			t.Fatalf("In of %v: %d, %d, but Right: %v", b, n, e, right)
		}
		for s := range b.Cry.Wide * b.Cry.High {
			b.Grounds[0] = square(s, 1, 1)
			n, _ := watch.In(b, 0, minute)
			if (n > 0) != slices.Contains(where, s) || (n == 2) != slices.Equal(where, []int{s}) {
				t.Fatalf("In of %v: %d, but Where: %v", b, n, where)
			}
		}
	}
}

// TestOnlyRead is of P9.9: arguments are only read, up to the capacity of their lists, and results are new memory.
func TestOnlyRead(t *testing.T) {
	r := chance(12)
	for range rounds / 4 {
		b, _ := anyTrueBook(r)
		// room behind each list, which is not the book's
		all := with(b, cried(sees(77, 78, point(79, 80), point(81, 82)), sees(7, 8, point(9, 10), point(11, 12))))
		all.Cry.Land, all.Turn.Bounds = append(all.Cry.Land, 77, -7), append(all.Turn.Bounds, to(77, -7), to(-7, 77))
		all.Turn.Orders = append(all.Turn.Orders, []int{77, -7}, []int{-7})
		all.Turn.Shots = append(all.Turn.Shots, shot(77, -7, to(77, -7)), shot(-7, 77, to(-7, 77)))
		all.Grounds, all.Nets = append(all.Grounds, square(77, -7, 7), square(7, 7, -7)), append(all.Nets, seine(77, -7), seine(-7, 77))
		for i, order := range all.Turn.Orders {
			longer := append(slices.Clone(order), 77, -7)
			all.Turn.Orders[i] = longer[:len(order)]
		}
		b.Cry.Land, b.Cry.Cries = all.Cry.Land[:len(b.Cry.Land)], all.Cry.Cries[:len(b.Cry.Cries)]
		b.Turn.Bounds, b.Turn.Orders, b.Turn.Shots = all.Turn.Bounds[:len(b.Turn.Bounds)], all.Turn.Orders[:len(b.Turn.Orders)], all.Turn.Shots[:len(b.Turn.Shots)]
		b.Grounds, b.Nets = all.Grounds[:len(b.Grounds)], all.Nets[:len(b.Nets)]
		old := with(all)
		first, again := results(b, 0, 5, 0, 1), results(b, 0, 5, 0, 1)
		for _, x := range first {
			if l, ok := x.([]int); ok {
				for i := range l[:cap(l)] {
					l[:cap(l)][i] = -7
				}
			}
		}
		if !reflect.DeepEqual(all, old) {
			t.Fatalf("the book was changed: %v; before %v", all, old)
		}
		for i, order := range all.Turn.Orders {
			if l := order[:len(order)+2]; !slices.Equal(l[len(order):], []int{77, -7}) {
				t.Fatalf("the order %d was changed: %v", i, l)
			}
		}
		if !reflect.DeepEqual(again, results(b, 0, 5, 0, 1)) {
			t.Fatalf("results of %v share memory", b)
		}
	}
}

// TestSameAgain is of P2: what was called before, and where the arguments lie, makes no difference.
func TestSameAgain(t *testing.T) {
	r := chance(13)
	var books []api.WatchBook
	var before [][]any
	for range rounds / 2 {
		b := anyBook(r)
		books, before = append(books, b), append(before, results(b, 0, 6, 0, 1))
	}
	for _, i := range r.Perm(len(books)) {
		if l := results(with(books[i]), 0, 6, 0, 1); !reflect.DeepEqual(l, before[i]) {
			t.Fatalf("the book %v: first %v, then %v", books[i], before[i], l)
		}
	}
}

// TestNilAndEmpty is of rule R3, for P9.1 to P9.8: there is no difference between a nil list and an empty one.
func TestNilAndEmpty(t *testing.T) {
	empty := row(func(b *api.WatchBook) {
		b.Cry.Land, b.Cry.Cries = []int{}, []api.CryCry{}
		b.Turn.Bounds, b.Turn.Shots = []api.Span{}, []api.TurnShot{}
	})
	if l, m := results(row(), 0, 0, 0, 1), results(empty, 0, 0, 0, 1); !reflect.DeepEqual(l, m) {
		t.Errorf("nil lists: %v, empty ones: %v", l, m)
	}
	none := api.WatchBook{Turn: api.TurnBook{Orders: [][]int{}}, Grounds: []api.WatchGround{}, Nets: []api.WatchNet{}}
	if l, m := results(api.WatchBook{}, 0, 0, 0, 1), results(none, 0, 0, 0, 1); !reflect.DeepEqual(l, m) {
		t.Errorf("a book of nil lists: %v, of empty ones: %v", l, m)
	}
}

// wild is a number that is likely to be wrong.
func wild(r *rand.Rand) int {
	numbers := []int{0, 1, 2, 3, 4, 5, 8, 10, 11, 30, 31, 79, 80, 1409, 1410, 1439, 1440, -1, -2, math.MaxInt, math.MinInt, math.MaxInt32, math.MinInt32, math.MaxInt / 2, 1 << 32}
	return numbers[r.IntN(len(numbers))]
}

// wildBook is a book of which some numbers are any.
func wildBook(r *rand.Rand) api.WatchBook {
	b := anyBook(r)
	for _, change := range []func(){
		func() { b.Cry.Wide = wild(r) },
		func() { b.Cry.High = wild(r) },
		func() { b.Cry.Swim = wild(r) },
		func() { b.Cry.Heads[r.IntN(2)] = wild(r) },
		func() { b.Cry.Land = append(b.Cry.Land, wild(r)) },
		func() {
			b.Cry.Cries = append(b.Cry.Cries, sees(wild(r), wild(r), point(wild(r), wild(r)), point(wild(r), wild(r))))
		},
		func() { b.Turn.Companies = wild(r) },
		func() { b.Turn.Bounds = append(b.Turn.Bounds, to(wild(r), wild(r))) },
		func() { b.Turn.Orders = append(b.Turn.Orders, []int{wild(r)}) },
		func() { b.Turn.Orders[0] = append(b.Turn.Orders[0], wild(r)) },
		func() { b.Turn.Orders = make([][]int, 100000) },
		func() { b.Turn.Shots = append(b.Turn.Shots, shot(wild(r), wild(r), to(wild(r), wild(r)))) },
		func() { b.Start = wild(r) },
		func() { b.Start = wild(r) },
		func() { b.Grounds[0] = square(wild(r), wild(r), wild(r)) },
		func() { b.Grounds[0].Wide = wild(r) },
		func() { b.Grounds[0].High = wild(r) },
		func() { b.Grounds[0].At = wild(r) },
		func() { b.Grounds = make([]api.WatchGround, 100000) },
		func() { b.Grounds = nil },
		func() { b.Nets[0] = seine(wild(r), wild(r)) },
		func() { b.Nets[0].Wide = wild(r) },
		func() { b.Nets = nil },
		func() { b.Nets = make([]api.WatchNet, 100000) },
	} {
		if r.IntN(24) == 0 {
			change()
		}
	}
	return b
}

// TestAnyArguments is of P1: every function ends, without a panic, and with an error all other results are zero values.
func TestAnyArguments(t *testing.T) {
	r := chance(14)
	valid := 0
	for range 1000 {
		b, station, minute, company, many := wildBook(r), wild(r), wild(r), wild(r), wild(r)
		l := results(b, station, minute, company, many)
		valid += btoi(l[0] == api.OK)
		for i := 2; i < len(l); i += 2 {
			if v := reflect.ValueOf(l[i-1]); l[i] != api.OK && !v.IsZero() {
				t.Fatalf("the book %v, asked %d, %d, %d, %d: %v", b, station, minute, company, many, l)
			}
		}
	}
	if valid < 200 || valid > 800 {
		t.Errorf("of 1000 books %d are valid", valid)
	}
}

// TestMostWork is of P1: the books that take the longest end soon, too.
func TestMostWork(t *testing.T) {
	b := api.WatchBook{
		Cry:     api.CryBook{Wide: 10, High: 8, Heads: [2]int{0, 9}, Swim: 3, Cries: slices.Repeat([]api.CryCry{not(0, 15, point(-9, 1), point(-9, 1))}, 8)},
		Turn:    api.TurnBook{Companies: 4, Bounds: []api.Span{to(0, 10), to(11, 21), to(22, 32), to(33, 43)}, Orders: [][]int{{0, 1, 2, 3, 0}, {1, 1, 1, 1, 1}, {3, 2, 1, 0, 0}}},
		Grounds: slices.Repeat([]api.WatchGround{square(0, 10, 8)}, 3), Nets: slices.Repeat([]api.WatchNet{seine(10, 8)}, 4),
	}
	// only at 10, 21 and 32 it is known whose turn it is, where turns change companies
	if minute, station, e := watch.Soon(b); minute != 0 || station != 1 || e != api.OK {
		t.Errorf("Soon: %d, %d, %d", minute, station, e)
	}
	if l, e := watch.Man(b, 2); !slices.Equal(l, []int{0, 1}) || e != api.OK {
		t.Errorf("Man: %v, %d", l, e)
	}
	if l, e := watch.May(b, 2, 1); !slices.Equal(l, run(11, 30)) || e != api.OK {
		t.Errorf("May: %v, %d", l, e)
	}
	if l, e := watch.May(b, 1, 1); !slices.Equal(l, run(0, 30)) || e != api.OK {
		t.Errorf("May: %v, %d", l, e)
	}
	if m, e := watch.Lost(b); m != 0 || e != api.ErrNone {
		t.Errorf("Lost: %d, %d", m, e)
	}
}
