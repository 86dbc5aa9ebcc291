package turn_test

import (
	"math/rand/v2"
	"slices"

	"huer/api"
	"huer/turn"
)

func to(low, high int) api.Span { return api.Span{Low: low, High: high} }

func just(minute int) api.Span { return to(minute, minute) }

func shot(station, company int, at api.Span) api.TurnShot {
	return api.TurnShot{Station: station, Company: company, At: at}
}

// book is that of the chapter's examples.
func book() api.TurnBook {
	return api.TurnBook{
		Companies: 3,
		Bounds:    []api.Span{to(360, 364), to(540, 545)},
		Orders:    [][]int{{0, 1, 2}, {1, 2, 0}},
		Shots:     []api.TurnShot{shot(0, 1, to(362, 366)), shot(1, 2, just(400)), shot(0, 0, just(359)), shot(1, 0, to(541, 543))},
	}
}

// late is the book in which more is known of the shot 3.
func late() api.TurnBook { return change(book(), func(b *api.TurnBook) { b.Shots[3].At = just(542) }) }

// torn is the book with a shot that cannot be fair.
func torn() api.TurnBook { return with(book(), shot(0, 0, just(366))) }

// bare is a book without bounds: each station is one company's all day.
func bare(shots ...api.TurnShot) api.TurnBook {
	return api.TurnBook{Companies: 3, Orders: [][]int{{1}, {2}}, Shots: shots}
}

// with is a book with further shots.
func with(b api.TurnBook, shots ...api.TurnShot) api.TurnBook {
	b.Shots = append(slices.Clone(b.Shots), shots...)
	return b
}

// copied is a book that shares no memory with another one.
func copied(b api.TurnBook) api.TurnBook {
	b.Bounds, b.Orders, b.Shots = slices.Clone(b.Bounds), slices.Clone(b.Orders), slices.Clone(b.Shots)
	for i, order := range b.Orders {
		b.Orders[i] = slices.Clone(order)
	}
	return b
}

// change is a book after a change.
func change(b api.TurnBook, what func(b *api.TurnBook)) api.TurnBook {
	b = copied(b)
	what(&b)
	return b
}

// chance is a source of books that is the same in each run.
func chance(seed uint64) *rand.Rand { return rand.New(rand.NewPCG(seed, 2)) }

// anyAt is a span of minutes near another minute.
func anyAt(r *rand.Rand, near int) api.Span {
	low := min(max(near+r.IntN(9)-4, 0), 1439)
	return to(low, min(low+r.IntN(11)*r.IntN(2), 1439))
}

// anyBook is a valid book, whose bounds and shots are close to each other, and sometimes to an end of the day.
func anyBook(r *rand.Rand) api.TurnBook {
	b := api.TurnBook{Companies: 1 + r.IntN(4)}
	first := []int{0, 1430, r.IntN(1300)}[r.IntN(3)]
	minute := first
	for range r.IntN(5) {
		low := minute + r.IntN(3)
		bound := to(low, low+r.IntN(11)*r.IntN(2))
		if bound.High > 1439 {
			break
		}
		b.Bounds = append(b.Bounds, bound)
		minute = bound.High + 1
	}
	for range 1 + r.IntN(3) {
		var order []int
		for range len(b.Bounds) + 1 {
			order = append(order, r.IntN(b.Companies))
		}
		b.Orders = append(b.Orders, order)
	}
	for range r.IntN(6) {
		b.Shots = append(b.Shots, shot(r.IntN(len(b.Orders)), r.IntN(b.Companies), anyAt(r, first+r.IntN(minute-first+1))))
	}
	return b
}

// many is how many truths a book has.
func many(b api.TurnBook) int {
	n := 1
	for _, s := range spans(b) {
		n *= s.High - s.Low + 1
	}
	return n
}

// smallBook is a valid book without too many truths to go through all of them.
func smallBook(r *rand.Rand) api.TurnBook {
	for {
		if b := anyBook(r); many(b) <= 5000 {
			return b
		}
	}
}

// spans are what is known of all bounds, and then of all shots.
func spans(b api.TurnBook) []api.Span {
	l := slices.Clone(b.Bounds)
	for _, s := range b.Shots {
		l = append(l, s.At)
	}
	return l
}

// truth is a minute of each bound, and one of each shot.
type truth struct{ bounds, shots []int }

// turn is the turn at a minute, as the chapter says it.
func (t truth) turn(minute int) int {
	n := 0
	for _, bound := range t.bounds {
		if !(bound > minute) {
			n++
		}
	}
	return n
}

// fair tells whether a shot is fair in the truth, as the chapter says it.
func (t truth) fair(b api.TurnBook, number int) bool {
	s := b.Shots[number]
	return b.Orders[s.Station][t.turn(t.shots[number])] == s.Company
}

// truths are all truths of a book.
func truths(b api.TurnBook) []truth {
	lists := [][]int{nil}
	for _, s := range spans(b) {
		var longer [][]int
		for _, l := range lists {
			for m := s.Low; m <= s.High; m++ {
				longer = append(longer, append(slices.Clone(l), m))
			}
		}
		lists = longer
	}
	var all []truth
	for _, l := range lists {
		all = append(all, truth{bounds: l[:len(b.Bounds)], shots: l[len(b.Bounds):]})
	}
	return all
}

// anyTruth is one of the truths of a book.
func anyTruth(r *rand.Rand, b api.TurnBook) truth {
	var l []int
	for _, s := range spans(b) {
		l = append(l, s.Low+r.IntN(s.High-s.Low+1))
	}
	return truth{bounds: l[:len(b.Bounds)], shots: l[len(b.Bounds):]}
}

// share is 2 if something is so in each truth, 1 if in some, and 0 if in none.
func share(all []truth, is func(t truth) bool) int {
	n := 0
	for _, t := range all {
		if is(t) {
			n++
		}
	}
	switch n {
	case len(all):
		return 2
	case 0:
		return 0
	}
	return 1
}

// slowOwners are all companies that have the turn in some truth.
func slowOwners(b api.TurnBook, all []truth, station, minute int) []int {
	var l []int
	for c := range b.Companies {
		if slices.ContainsFunc(all, func(t truth) bool { return b.Orders[station][t.turn(minute)] == c }) {
			l = append(l, c)
		}
	}
	return l
}

// slowSure are the runs of minutes at which a company is the only owner.
func slowSure(b api.TurnBook, all []truth, station, company int) []api.Span {
	var runs []api.Span
	before := false
	for m := range 1440 {
		now := slices.Equal(slowOwners(b, all, station, m), []int{company})
		if now && !before {
			runs = append(runs, just(m))
		}
		if now {
			runs[len(runs)-1].High = m
		}
		before = now
	}
	return runs
}

// slowHangs are all bounds of which another minute, and nothing else, makes a shot fair or unfair.
func slowHangs(b api.TurnBook, all []truth, number int) []int {
	var l []int
	for k, bound := range b.Bounds {
		differs := func(t truth) bool {
			for m := bound.Low; m <= bound.High; m++ {
				other := truth{bounds: slices.Clone(t.bounds), shots: t.shots}
				other.bounds[k] = m
				if other.fair(b, number) != t.fair(b, number) {
					return true
				}
			}
			return false
		}
		if slices.ContainsFunc(all, differs) {
			l = append(l, k)
		}
	}
	return l
}

// together tells whether there is a truth in which all shots but those of a list are fair.
func together(b api.TurnBook, all []truth, without []int) bool {
	return slices.ContainsFunc(all, func(t truth) bool {
		for i := range b.Shots {
			if !slices.Contains(without, i) && !t.fair(b, i) {
				return false
			}
		}
		return true
	})
}

// slowWrong is the first list of the fewest shots without which there is such a truth.
func slowWrong(b api.TurnBook, all []truth) []int {
	var best []int
	found := false
	for set := range 1 << len(b.Shots) {
		var l []int
		for i := range b.Shots {
			if set>>i&1 == 1 {
				l = append(l, i)
			}
		}
		better := !found || len(l) < len(best) || len(l) == len(best) && slices.Compare(l, best) < 0
		if better && together(b, all, l) {
			best, found = l, true
		}
	}
	return best
}

// slowLearn is the first bound that leaves the fewest shots fair in some truths and not in others, or -1.
func slowLearn(b api.TurnBook, all []truth) int {
	best, fewest := -1, len(b.Shots)+1
	for k, bound := range b.Bounds {
		worst := 0
		for m := bound.Low; m <= bound.High; m++ {
			rest := slices.DeleteFunc(slices.Clone(all), func(t truth) bool { return t.bounds[k] != m })
			n := 0
			for i := range b.Shots {
				if share(rest, func(t truth) bool { return t.fair(b, i) }) == 1 {
					n++
				}
			}
			worst = max(worst, n)
		}
		if worst < fewest {
			best, fewest = k, worst
		}
	}
	return best
}

// results are those of all functions of a book.
func results(b api.TurnBook, station, minute, company, one, other int) []any {
	span, e1 := turn.Turn(b, minute)
	owners, e2 := turn.Owners(b, station, minute)
	fair, e3 := turn.Fair(b, one)
	hangs, e4 := turn.Hangs(b, one)
	first, e5 := turn.First(b, one, other)
	sure, e6 := turn.Sure(b, station, company)
	wrong, e7 := turn.Wrong(b)
	learn, e8 := turn.Learn(b)
	return []any{turn.Check(b), span, e1, owners, e2, fair, e3, hangs, e4, first, e5, sure, e6, wrong, e7, learn, e8}
}

// errorsOf are the errors among results: those of Check, Turn, Owners, Fair, Hangs, First, Sure, Wrong, Learn.
func errorsOf(results []any) []api.Errno {
	var l []api.Errno
	for _, x := range results {
		if e, ok := x.(api.Errno); ok {
			l = append(l, e)
		}
	}
	return l
}
