package watch_test

import (
	"math/rand/v2"
	"slices"

	"huer/api"
	"huer/watch"
)

func to(low, high int) api.Span { return api.Span{Low: low, High: high} }

func point(along, out int) api.CryPointing { return api.CryPointing{Along: along, Out: out} }

// sees is a cry that the shoal is between two directions, and not one that it is not.
func sees(huer, minute int, from, until api.CryPointing) api.CryCry {
	return api.CryCry{Huer: huer, Minute: minute, Kind: api.CrySees, From: from, To: until}
}

func not(huer, minute int, from, until api.CryPointing) api.CryCry {
	return api.CryCry{Huer: huer, Minute: minute, Kind: api.CryNot, From: from, To: until}
}

func square(at, wide, high int) api.WatchGround {
	return api.WatchGround{At: at, Wide: wide, High: high}
}

func seine(wide, high int) api.WatchNet { return api.WatchNet{Wide: wide, High: high} }

// book is that of the chapter's examples, after some changes.
func book(changes ...func(b *api.WatchBook)) api.WatchBook {
	return with(api.WatchBook{
		Cry: api.CryBook{
			Wide: 6, High: 4, Heads: [2]int{0, 5},
			Cries: []api.CryCry{sees(0, 0, point(1, 1), point(1, 2)), sees(1, 1, point(-1, 1), point(-2, 1))},
		},
		Turn:    api.TurnBook{Companies: 2, Bounds: []api.Span{to(400, 402)}, Orders: [][]int{{0, 1}, {1, 0}}},
		Start:   398,
		Grounds: []api.WatchGround{square(1, 3, 4), square(0, 6, 4)},
		Nets:    []api.WatchNet{seine(2, 2), seine(3, 2)},
	}, changes...)
}

// narrow, swimming and torn are the other books of the examples, and that whose cries cannot all be right.
func narrow(changes ...func(b *api.WatchBook)) api.WatchBook {
	return with(book(ground(0, square(0, 1, 4)), ground(1, square(5, 1, 4))), changes...)
}

func swimming(changes ...func(b *api.WatchBook)) api.WatchBook {
	return with(book(swim(1)), changes...)
}

func torn(changes ...func(b *api.WatchBook)) api.WatchBook {
	return with(book(cried(not(0, 9, point(1, 1), point(1, 2)))), changes...)
}

// dry is a book of which the bay is all land.
func dry() api.WatchBook {
	return api.WatchBook{
		Cry:  api.CryBook{Wide: 2, High: 1, Land: []int{0, 1}},
		Turn: api.TurnBook{Companies: 1, Orders: [][]int{{0}}}, Grounds: []api.WatchGround{square(0, 2, 1)}, Nets: []api.WatchNet{seine(1, 1)},
	}
}

// row is a book of a bay of one row of 8 columns, in which the shoal swims one column a minute, and of one company; it is changed first, and then it has a ground for each station.
func row(changes ...func(b *api.WatchBook)) api.WatchBook {
	return with(api.WatchBook{
		Cry:  api.CryBook{Wide: 8, High: 1, Swim: 1},
		Turn: api.TurnBook{Companies: 1, Orders: [][]int{{0}}}, Grounds: []api.WatchGround{square(0, 8, 1)}, Nets: []api.WatchNet{seine(1, 1)},
	}, changes...)
}

// within is a cry that the shoal is in these columns of a row.
func within(minute, first, last int) func(b *api.WatchBook) {
	return cried(sees(0, minute, point(last, 1), point(first, 1)))
}

// with is a book after some changes, which shares no memory with the other one.
func with(b api.WatchBook, changes ...func(b *api.WatchBook)) api.WatchBook {
	b.Cry.Land, b.Cry.Cries = slices.Clone(b.Cry.Land), slices.Clone(b.Cry.Cries)
	b.Turn.Bounds, b.Turn.Orders, b.Turn.Shots = slices.Clone(b.Turn.Bounds), slices.Clone(b.Turn.Orders), slices.Clone(b.Turn.Shots)
	for i, order := range b.Turn.Orders {
		b.Turn.Orders[i] = slices.Clone(order)
	}
	b.Grounds, b.Nets = slices.Clone(b.Grounds), slices.Clone(b.Nets)
	for _, change := range changes {
		change(&b)
	}
	return b
}

func cried(cries ...api.CryCry) func(b *api.WatchBook) {
	return func(b *api.WatchBook) { b.Cry.Cries = append(b.Cry.Cries, cries...) }
}

func swim(many int) func(b *api.WatchBook) {
	return func(b *api.WatchBook) { b.Cry.Swim = many }
}

func land(squares ...int) func(b *api.WatchBook) {
	return func(b *api.WatchBook) { b.Cry.Land = squares }
}

func bounds(all ...api.Span) func(b *api.WatchBook) {
	return func(b *api.WatchBook) { b.Turn.Bounds = all }
}

func orders(all ...[]int) func(b *api.WatchBook) {
	return func(b *api.WatchBook) { b.Turn.Orders = all }
}

func shots(all ...api.TurnShot) func(b *api.WatchBook) {
	return func(b *api.WatchBook) { b.Turn.Shots = all }
}

func companies(many int, nets ...api.WatchNet) func(b *api.WatchBook) {
	return func(b *api.WatchBook) { b.Turn.Companies, b.Nets = many, nets }
}

func start(minute int) func(b *api.WatchBook) {
	return func(b *api.WatchBook) { b.Start = minute }
}

func ground(station int, g api.WatchGround) func(b *api.WatchBook) {
	return func(b *api.WatchBook) { b.Grounds[station] = g }
}

func grounds(all ...api.WatchGround) func(b *api.WatchBook) {
	return func(b *api.WatchBook) { b.Grounds = all }
}

func net(company int, n api.WatchNet) func(b *api.WatchBook) {
	return func(b *api.WatchBook) { b.Nets[company] = n }
}

// run is all numbers from a first one to a last one.
func run(first, last int) []int {
	var list []int
	for number := first; number <= last; number++ {
		list = append(list, number)
	}
	return list
}

// known is what the chapters 1 and 2 tell of a book: where the shoal can be at each minute, all truths of the bounds, and which companies have the turn at a station, at a minute, in some of them.
type known struct {
	api.WatchBook
	where [31][]int
	turns [][]int
	owned map[[2]int][]int
}

// knownOf is what is known of a book, slowly: from all squares that no cry of their minute forbids those are taken away, again and again, that have none to come from or to go on to.
func knownOf(b api.WatchBook) known {
	k := known{WatchBook: b, turns: [][]int{nil}, owned: map[[2]int][]int{}}
	for m := range k.where {
		for s := range b.Cry.Wide * b.Cry.High {
			wrong := func(c api.CryCry) bool { return c.Minute == m && between(b.Cry, c, s) != (c.Kind == api.CrySees) }
			if !slices.Contains(b.Cry.Land, s) && !slices.ContainsFunc(b.Cry.Cries, wrong) {
				k.where[m] = append(k.where[m], s)
			}
		}
	}
	for changed := true; changed; {
		changed = false
		for m := range k.where {
			before := len(k.where[m])
			k.where[m] = slices.DeleteFunc(k.where[m], func(s int) bool { return k.alone(m, s) })
			changed = changed || len(k.where[m]) != before
		}
	}
	for _, bound := range b.Turn.Bounds {
		var longer [][]int
		for _, t := range k.turns {
			for _, m := range run(bound.Low, bound.High) {
				longer = append(longer, append(slices.Clone(t), m))
			}
		}
		k.turns = longer
	}
	for station := range b.Turn.Orders {
		for m := range k.where {
			k.owned[[2]int{station, m}] = k.owners(station, m)
		}
	}
	return k
}

// between tells whether a square is between the directions of a cry.
func between(b api.CryBook, c api.CryCry, square int) bool {
	a, o := square%b.Wide-b.Heads[c.Huer], square/b.Wide+1
	return !(c.From.Along*o < c.From.Out*a) && !(a*c.To.Out < o*c.To.Along)
}

// near tells whether the shoal can swim from one square to another one in a minute.
func near(b api.CryBook, one, other int) bool {
	columns, rows := one%b.Wide-other%b.Wide, one/b.Wide-other/b.Wide
	return -b.Swim <= columns && columns <= b.Swim && -b.Swim <= rows && rows <= b.Swim
}

// alone tells whether the shoal has nowhere to come from, or to go on to, if it is in a square at a minute.
func (k known) alone(m, s int) bool {
	reached := func(o int) bool { return near(k.Cry, s, o) }
	return m > 0 && !slices.ContainsFunc(k.where[m-1], reached) || m < 30 && !slices.ContainsFunc(k.where[m+1], reached)
}

// isRight tells whether the book can be true.
func (k known) isRight() bool { return len(k.where[0]) > 0 }

// owner is the company that has the turn at a station, at a minute of the watch, if the bounds truly are at these minutes.
func owner(b api.WatchBook, bounds []int, station, minute int) int {
	turn := 0
	for _, bound := range bounds {
		if !(bound > b.Start+minute) {
			turn++
		}
	}
	return b.Turn.Orders[station][turn]
}

// owners are all companies that have the turn in some truth, increasing.
func (k known) owners(station, minute int) []int {
	var list []int
	for company := range k.Turn.Companies {
		if slices.ContainsFunc(k.turns, func(t []int) bool { return owner(k.WatchBook, t, station, minute) == company }) {
			list = append(list, company)
		}
	}
	return list
}

// incloses tells whether a square is one of so many columns and rows from another square on.
func incloses(b api.WatchBook, at, wide, high, square int) bool {
	column, row := square%b.Cry.Wide-at%b.Cry.Wide, square/b.Cry.Wide-at/b.Cry.Wide
	return column >= 0 && column < wide && row >= 0 && row < high
}

// isIn tells whether a square is one of a station's ground.
func isIn(b api.WatchBook, station, square int) bool {
	g := b.Grounds[station]
	return incloses(b, g.At, g.Wide, g.High, square)
}

// squares are all squares of a station's ground.
func (k known) squares(station int) []int {
	return slices.DeleteFunc(run(0, k.Cry.Wide*k.Cry.High-1), func(s int) bool { return !isIn(k.WatchBook, station, s) })
}

// in is 2 if the shoal is in the ground in each truth, 1 if in some, and 0 if in none.
func (k known) in(station, minute int) int {
	many := 0
	for _, s := range k.where[minute] {
		if isIn(k.WatchBook, station, s) {
			many++
		}
	}
	switch many {
	case len(k.where[minute]):
		return 2
	case 0:
		return 0
	}
	return 1
}

// stays tells whether all columns and rows of a company's seine that is shot at a square are in the ground.
func (k known) stays(station, company, at int) bool {
	g, n := k.Grounds[station], k.Nets[company]
	for column := range n.Wide {
		for row := range n.High {
			x, y := at%k.Cry.Wide+column-g.At%k.Cry.Wide, at/k.Cry.Wide+row-g.At/k.Cry.Wide
			if x < 0 || x >= g.Wide || y < 0 || y >= g.High {
				return false
			}
		}
	}
	return true
}

// can tells whether a company surely can shoot at a square.
func (k known) can(station, minute, company, at int) bool {
	if !slices.Equal(k.owned[[2]int{station, minute}], []int{company}) || !k.stays(station, company, at) {
		return false
	}
	n := k.Nets[company]
	return !slices.ContainsFunc(k.where[minute], func(s int) bool { return !incloses(k.WatchBook, at, n.Wide, n.High, s) })
}

// none is where there is no shot.
var none = [2]int{-1, -1}

// shot is the company that surely can shoot, and the first square at which it can.
func (k known) shot(station, minute int) [2]int {
	for company := range k.Turn.Companies {
		for at := range k.Cry.Wide * k.Cry.High {
			if k.can(station, minute, company, at) {
				return [2]int{company, at}
			}
		}
	}
	return none
}

// soon is the first minute, and the first station, with a shot.
func (k known) soon() [2]int {
	for minute := range k.where {
		for station := range k.Grounds {
			if k.shot(station, minute) != none {
				return [2]int{minute, station}
			}
		}
	}
	return none
}

// may are all minutes at which in some truth a company has the turn, and the shoal is in the ground.
func (k known) may(station, company int) []int {
	return slices.DeleteFunc(run(0, 30), func(m int) bool {
		return k.in(station, m) == 0 || !slices.Contains(k.owned[[2]int{station, m}], company)
	})
}

// quarrel are all bounds of which another minute, and nothing else, makes a shot of some company fair or unfair.
func (k known) quarrel(station, minute int) []int {
	var list []int
	for number, bound := range k.Turn.Bounds {
		differs := func(t []int) bool {
			return slices.ContainsFunc(run(bound.Low, bound.High), func(m int) bool {
				other := slices.Clone(t)
				other[number] = m
				return owner(k.WatchBook, other, station, minute) != owner(k.WatchBook, t, station, minute)
			})
		}
		if slices.ContainsFunc(k.turns, differs) {
			list = append(list, number)
		}
	}
	return list
}

// manned is at how many minutes some of these stations have a shot.
func (k known) manned(stations []int) int {
	many := 0
	for minute := range k.where {
		if slices.ContainsFunc(stations, func(s int) bool { return k.shot(s, minute) != none }) {
			many++
		}
	}
	return many
}

// man is the first of the best lists of so many stations.
func (k known) man(many int) []int {
	var best []int
	most := -1
	for _, list := range lists(len(k.Grounds), many) {
		if n := k.manned(list); n > most || n == most && slices.Compare(list, best) < 0 {
			best, most = list, n
		}
	}
	return best
}

// lists are all strictly increasing lists of so many numbers below n, in some order.
func lists(n, many int) [][]int {
	var all [][]int
	for set := range 1 << n {
		list := slices.DeleteFunc(run(0, n-1), func(i int) bool { return set>>i&1 == 0 })
		if len(list) == many {
			all = append(all, list)
		}
	}
	return all
}

// lost is the first minute from which on the shoal is in no ground in any truth, or -1.
func (k known) lost() int {
	for first := range k.where {
		is := func(m int) bool {
			return slices.ContainsFunc(run(0, len(k.Grounds)-1), func(s int) bool { return k.in(s, m) > 0 })
		}
		if !slices.ContainsFunc(run(first, 30), is) {
			return first
		}
	}
	return -1
}

// results are those of all functions of a book.
func results(b api.WatchBook, station, minute, company, many int) []any {
	squares, e1 := watch.Squares(b, station)
	in, e2 := watch.In(b, station, minute)
	owner, at, e3 := watch.Shot(b, station, minute)
	first, where, e4 := watch.Soon(b)
	may, e5 := watch.May(b, station, company)
	quarrel, e6 := watch.Quarrel(b, station, minute)
	man, e7 := watch.Man(b, many)
	lost, e8 := watch.Lost(b)
	return []any{watch.Check(b), squares, e1, in, e2, [2]int{owner, at}, e3, [2]int{first, where}, e4, may, e5, quarrel, e6, man, e7, lost, e8}
}

// errorsOf are the errors among results: those of Check, Squares, In, Shot, Soon, May, Quarrel, Man, Lost.
func errorsOf(results []any) []api.Errno {
	var list []api.Errno
	for _, x := range results {
		if e, ok := x.(api.Errno); ok {
			list = append(list, e)
		}
	}
	return list
}

// chance is a source of books that is the same in each run.
func chance(seed uint64) *rand.Rand { return rand.New(rand.NewPCG(seed, 9)) }

// anyCry is a valid cry, which is early or late more often than between.
func anyCry(r *rand.Rand) api.CryCry {
	for {
		minute := []int{r.IntN(31), r.IntN(4), 30 - r.IntN(4)}[r.IntN(3)]
		c := api.CryCry{Huer: r.IntN(2), Minute: minute, Kind: r.IntN(2), From: point(r.IntN(19)-9, 1+r.IntN(9)), To: point(r.IntN(19)-9, 1+r.IntN(9))}
		if c.From.Along*c.To.Out >= c.From.Out*c.To.Along {
			return c
		}
	}
}

// anyBay is a valid bay without cries.
func anyBay(r *rand.Rand) api.CryBook {
	b := api.CryBook{Wide: 1 + r.IntN(10), High: 1 + r.IntN(8), Heads: [2]int{r.IntN(21) - 5, r.IntN(21) - 5}, Swim: []int{0, 0, 1, 1, 1, 2, 3}[r.IntN(7)]}
	b.Land = r.Perm(b.Wide * b.High)[:r.IntN(min(10, b.Wide*b.High-1)+1)]
	return b
}

// anyPath is a way that a shoal can truly swim. (The bay has a square that is no land, on which it can stay.)
func anyPath(r *rand.Rand, b api.CryBook) []int {
	var path []int
	for range 31 {
		next := slices.DeleteFunc(run(0, b.Wide*b.High-1), func(s int) bool {
			return slices.Contains(b.Land, s) || len(path) > 0 && !near(b, path[len(path)-1], s)
		})
		path = append(path, next[r.IntN(len(next))])
	}
	return path
}

// rightly is a cry that is right of a shoal that swims on a path.
func rightly(b api.CryBook, path []int, c api.CryCry) api.CryCry {
	c.Kind = api.CryNot
	if between(b, c, path[c.Minute]) {
		c.Kind = api.CrySees
	}
	return c
}

// sharply is the one of some right cries that leaves the fewest squares.
func sharply(r *rand.Rand, b api.CryBook, path []int) api.CryCry {
	var best api.CryCry
	fewest := 1 << 30
	for range 16 {
		c := rightly(b, path, anyCry(r))
		left := 0
		for s := range b.Wide * b.High {
			if between(b, c, s) == (c.Kind == api.CrySees) {
				left++
			}
		}
		if left < fewest {
			best, fewest = c, left
		}
	}
	return best
}

// anyTurns are a valid book of turns, of which some bounds come in the watch that begins at a minute.
func anyTurns(r *rand.Rand, start int) api.TurnBook {
	b := api.TurnBook{Companies: 1 + r.IntN(4)}
	minute := max(start-r.IntN(12), 0)
	for range r.IntN(5) {
		low := minute + r.IntN(8)
		bound := to(low, low+r.IntN(11)*r.IntN(2))
		if bound.High > 1439 || len(b.Bounds) == 2 && r.IntN(2) == 0 {
			break
		}
		b.Bounds = append(b.Bounds, bound)
		minute = bound.High + 1
	}
	for range 1 + r.IntN(3) {
		var order []int
		for range len(b.Bounds) + 1 {
			order = append(order, r.IntN(b.Companies))
		}
		b.Orders = append(b.Orders, order)
	}
	for range r.IntN(6) {
		low := r.IntN(1430)
		b.Shots = append(b.Shots, api.TurnShot{Station: r.IntN(len(b.Orders)), Company: r.IntN(b.Companies), At: to(low, low+r.IntN(10))})
	}
	return b
}

// side is the first one of so many, and how many of them there are: few, or more often many.
func side(r *rand.Rand, many int, few bool) (first, long int) {
	long = max(1+r.IntN(many), 1+r.IntN(many))
	if few {
		long = 1 + r.IntN(min(many, 2))
	}
	return r.IntN(many - long + 1), long
}

// anyGround is a valid ground, of few columns and rows or of many.
func anyGround(r *rand.Rand, b api.CryBook, few bool) api.WatchGround {
	column, wide := side(r, b.Wide, few)
	line, high := side(r, b.High, few)
	return square(line*b.Wide+column, wide, high)
}

// anyNet is a valid seine, which mostly fits into a ground, and often just so.
func anyNet(r *rand.Rand, g api.WatchGround) api.WatchNet {
	long := func(many int) int { return min(max(1+r.IntN(many), many+1-r.IntN(4)), 10) }
	return seine(long(g.Wide), long(g.High))
}

// truth is where the shoal is at all minutes, and the minutes of all bounds.
type truth struct{ path, bounds []int }

// anyTrueBook is a valid book of which all cries are right in a truth, and this truth.
func anyTrueBook(r *rand.Rand) (api.WatchBook, truth) {
	b := api.WatchBook{Cry: anyBay(r), Start: []int{0, 1409, 30 + r.IntN(1300)}[r.IntN(3)]}
	x := truth{path: anyPath(r, b.Cry)}
	for range r.IntN(9) {
		b.Cry.Cries = append(b.Cry.Cries, sharply(r, b.Cry, x.path))
	}
	b.Turn = anyTurns(r, b.Start)
	for _, bound := range b.Turn.Bounds {
		x.bounds = append(x.bounds, bound.Low+r.IntN(bound.High-bound.Low+1))
	}
	few := r.IntN(3) == 0
	for range b.Turn.Orders {
		b.Grounds = append(b.Grounds, anyGround(r, b.Cry, few))
	}
	for range b.Turn.Companies {
		b.Nets = append(b.Nets, anyNet(r, b.Grounds[r.IntN(len(b.Grounds))]))
	}
	return b, x
}

// anyBook is a valid book some cries of which may be wrong.
func anyBook(r *rand.Rand) api.WatchBook {
	b, _ := anyTrueBook(r)
	for range r.IntN(9 - len(b.Cry.Cries)) {
		b.Cry.Cries = append(b.Cry.Cries, anyCry(r))
	}
	return b
}
