package tide_test

import (
	"math/rand/v2"
	"slices"

	"huer/api"
	"huer/seine"
	"huer/tide"
)

func to(low, high int) api.Span { return api.Span{Low: low, High: high} }

func just(number int) api.Span { return to(number, number) }

func note(kind, hour int, many api.Span) api.SeineNote {
	return api.SeineNote{Kind: kind, Hour: hour, Many: many}
}

func low(hour, least, most int) api.TideLow { return api.TideLow{Hour: hour, Room: to(least, most)} }

// book is that of the chapter's examples, after some changes.
func book(changes ...func(b *api.TideBook)) api.TideBook {
	b := api.TideBook{
		Seine: api.SeineBook{Inclosed: to(100, 110), Notes: []api.SeineNote{
			note(api.SeineTuck, 6, just(30)), note(api.SeineBreach, 8, to(1, 3)), note(api.SeineMend, 18, just(0)), note(api.SeineSound, 20, to(45, 55)), note(api.SeineBreach, 21, to(1, 2)),
		}},
		Now:   21,
		Tides: []api.TideLow{low(24, 20, 25), low(30, 18, 20), low(36, 15, 22)},
		Gale:  to(34, 40), Most: 2, Rest: 8,
	}
	return with(b, changes...)
}

// with is a book after some changes.
func with(b api.TideBook, changes ...func(b *api.TideBook)) api.TideBook {
	b.Seine.Notes, b.Tides = slices.Clone(b.Seine.Notes), slices.Clone(b.Tides)
	for _, change := range changes {
		change(&b)
	}
	return b
}

func now(hour int) func(b *api.TideBook) { return func(b *api.TideBook) { b.Now = hour } }

func most(many int) func(b *api.TideBook) { return func(b *api.TideBook) { b.Most = many } }

func rest(hours int) func(b *api.TideBook) { return func(b *api.TideBook) { b.Rest = hours } }

func gale(low, high int) func(b *api.TideBook) {
	return func(b *api.TideBook) { b.Gale = to(low, high) }
}

func tides(all ...api.TideLow) func(b *api.TideBook) {
	return func(b *api.TideBook) { b.Tides = all }
}

// holding is a seine of so many baskets that loses nothing, or what its notes say.
func holding(many api.Span, notes ...api.SeineNote) func(b *api.TideBook) {
	return func(b *api.TideBook) { b.Seine = api.SeineBook{Inclosed: many, Notes: notes} }
}

// late and quick are the other books of the examples.
func late() api.TideBook { return book(gale(38, 40)) }

func quick() api.TideBook { return book(rest(6)) }

// plain is a seine of 30 baskets that loses nothing, from the hour 0 on.
func plain(changes ...func(b *api.TideBook)) api.TideBook {
	return with(book(holding(just(30)), now(0)), changes...)
}

// truth is the chapter's: what the seine holds and loses at Now, what each tide lets out, and when the gale comes.
type truth struct {
	held, rate int
	rooms      []int
	gale       int
}

// fate is what becomes of a seine.
type fate struct{ out, lost, left int }

// play goes hour by hour through a truth, as the chapter says it.
func (x truth) play(b api.TideBook, plan []int) fate {
	held, out := x.held, 0
	for hour := b.Now; hour < x.gale; hour++ {
		for _, number := range plan {
			if b.Tides[number].Hour == hour {
				many := min(x.rooms[number], held)
				held, out = held-many, out+many
			}
		}
		held = max(held-x.rate, 0)
	}
	return fate{out: out, lost: x.held - out, left: held}
}

// known is what is known of all things of a truth, in their order.
func known(b api.TideBook) []api.Span {
	held, _ := seine.Held(b.Seine, b.Now)
	rate, _ := seine.Rate(b.Seine, b.Now)
	list := []api.Span{held, rate}
	for _, l := range b.Tides {
		list = append(list, l.Room)
	}
	return append(list, b.Gale)
}

// newTruth is a truth by its numbers.
func newTruth(numbers []int) truth {
	last := len(numbers) - 1
	return truth{held: numbers[0], rate: numbers[1], rooms: numbers[2:last], gale: numbers[last]}
}

// truths are all of a book.
func truths(b api.TideBook) []truth {
	lists := [][]int{nil}
	for _, s := range known(b) {
		var longer [][]int
		for _, l := range lists {
			for number := s.Low; number <= s.High; number++ {
				longer = append(longer, append(slices.Clone(l), number))
			}
		}
		lists = longer
	}
	var all []truth
	for _, l := range lists {
		all = append(all, newTruth(l))
	}
	return all
}

// anyTruth is one of a book.
func anyTruth(r *rand.Rand, b api.TideBook) truth {
	var numbers []int
	for _, s := range known(b) {
		numbers = append(numbers, s.Low+r.IntN(s.High-s.Low+1))
	}
	return newTruth(numbers)
}

// fates are what is told of a plan: the least and the greatest numbers of each kind.
type fates struct{ out, lost, left api.Span }

// slowFates goes through all truths.
func slowFates(b api.TideBook, plan []int, all []truth) fates {
	first := all[0].play(b, plan)
	f := fates{out: just(first.out), lost: just(first.lost), left: just(first.left)}
	for _, x := range all {
		one := x.play(b, plan)
		f.out = widened(f.out, one.out)
		f.lost = widened(f.lost, one.lost)
		f.left = widened(f.left, one.left)
	}
	return f
}

func widened(s api.Span, number int) api.Span { return to(min(s.Low, number), max(s.High, number)) }

// told are the fates by the package, and its first error.
func told(b api.TideBook, plan []int) (fates, api.Errno) {
	out, e := tide.Out(b, plan)
	lost, e2 := tide.Lost(b, plan)
	left, e3 := tide.Left(b, plan)
	return fates{out, lost, left}, max(e, e2, e3)
}

// slowIsPlan says what the chapter says of plans.
func slowIsPlan(b api.TideBook, plan []int) bool {
	for i, number := range plan {
		if number < 0 || number >= len(b.Tides) || i > 0 && (number <= plan[i-1] || b.Tides[number].Hour < b.Tides[plan[i-1]].Hour+b.Rest) {
			return false
		}
	}
	return len(plan) <= b.Most
}

// slowPlans are all plans, in the order of lists of the same length, and not of all of them.
func slowPlans(b api.TideBook) [][]int {
	var plans [][]int
	for set := range 1 << len(b.Tides) {
		var plan []int
		for number := range b.Tides {
			if set>>number&1 == 1 {
				plan = append(plan, number)
			}
		}
		if slowIsPlan(b, plan) {
			plans = append(plans, plan)
		}
	}
	return plans
}

// anyPlan is one of a book.
func anyPlan(r *rand.Rand, b api.TideBook) []int {
	plans := slowPlans(b)
	return plans[r.IntN(len(plans))]
}

// results are those of all functions of a book.
func results(b api.TideBook, plan []int) []any {
	is, e1 := tide.IsPlan(b, plan)
	out, e2 := tide.Out(b, plan)
	lost, e3 := tide.Lost(b, plan)
	left, e4 := tide.Left(b, plan)
	mended, e5 := tide.Mended(b, plan)
	best, e6 := tide.Best(b)
	spare, e7 := tide.Spare(b, plan)
	calm, e8 := tide.Calm(b)
	return []any{tide.Check(b), is, e1, out, e2, lost, e3, left, e4, mended, e5, best, e6, spare, e7, calm, e8}
}

// errorsOf are the errors among results: those of Check, IsPlan, Out, Lost, Left, Mended, Best, Spare, Calm.
func errorsOf(results []any) []api.Errno {
	var list []api.Errno
	for _, x := range results {
		if e, ok := x.(api.Errno); ok {
			list = append(list, e)
		}
	}
	return list
}

// chance is a source of books that is the same in each run.
func chance(seed uint64) *rand.Rand { return rand.New(rand.NewPCG(seed, 4)) }

// around is a span from 0 to a greatest number in which a number lies, its ends no more than so far apart.
func around(r *rand.Rand, number, most, wide int) api.Span {
	apart := r.IntN(wide + 1)
	least := number - r.IntN(apart+1)
	return to(max(least, 0), min(least+apart, most))
}

// anySeine is one that can be true, how many baskets it truly holds behind its last note, what it loses then, and the hour of this note.
func anySeine(r *rand.Rand, wide int) (b api.SeineBook, held, rate, hour int) {
	held = r.IntN([]int{12, 80, 401}[r.IntN(3)])
	b.Inclosed = around(r, held, 400, wide)
	for range r.IntN(6) {
		for passed := r.IntN(5); passed > 0; passed-- {
			held, hour = max(held-rate, 0), hour+1
		}
		n := note(r.IntN(5), hour, just(0))
		switch n.Kind {
		case api.SeineTuck:
			many := r.IntN(min(held, 20) + 1)
			n.Many = around(r, many, 400, wide)
			held -= many
		case api.SeineBreach:
			many := r.IntN(3)
			n.Many = around(r, many, 9, min(wide, 3))
			rate += many
		case api.SeineMend:
			rate = 0
		case api.SeineDogs:
			many := r.IntN(10)
			n.Many = around(r, many, 400, wide)
			held = max(held-many, 0)
		case api.SeineSound:
			n.Many = around(r, held, 400, wide)
		}
		b.Notes = append(b.Notes, n)
	}
	return b, held, rate, hour
}

// anyTrueBook is a valid book, and a truth of it in which the seine is what it truly was. So far are the ends of its spans apart, at most.
func anyTrueBook(r *rand.Rand, wide int) (api.TideBook, truth) {
	s, held, rate, hour := anySeine(r, wide)
	b := api.TideBook{Seine: s, Now: hour + r.IntN(4)*r.IntN(4), Most: r.IntN(7), Rest: r.IntN(3) * r.IntN(8)}
	for range b.Now - hour {
		held = max(held-rate, 0)
	}
	x := truth{held: held, rate: rate}
	size := 1 + r.IntN([]int{4, 30, 100}[r.IntN(3)])
	at := b.Now + r.IntN(3)
	for many := r.IntN(7); len(b.Tides) < many && at <= 60; at += 1 + r.IntN(9) {
		room := r.IntN(min(size, 100))
		b.Tides = append(b.Tides, api.TideLow{Hour: at, Room: around(r, room, 99, wide)})
		x.rooms = append(x.rooms, room)
	}
	x.gale = b.Now + r.IntN(61-b.Now)
	b.Gale = around(r, x.gale, 60, wide)
	b.Gale.Low = max(b.Gale.Low, b.Now)
	return b, x
}

// anyBook is a valid one.
func anyBook(r *rand.Rand, wide int) api.TideBook {
	b, _ := anyTrueBook(r, wide)
	return b
}

// smallBook is a book without too many truths to go through all of them.
func smallBook(r *rand.Rand) api.TideBook {
	for {
		b := anyBook(r, r.IntN(4))
		many := 1
		for _, s := range known(b) {
			many *= s.High - s.Low + 1
		}
		if many <= 600 {
			return b
		}
	}
}
