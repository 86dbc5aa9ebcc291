package seine_test

import (
	"math/rand/v2"
	"slices"

	"huer/api"
	"huer/seine"
)

func to(low, high int) api.Span { return api.Span{Low: low, High: high} }

func just(many int) api.Span { return to(many, many) }

func note(kind, hour int, many api.Span) api.SeineNote {
	return api.SeineNote{Kind: kind, Hour: hour, Many: many}
}

func tuck(hour, low, high int) api.SeineNote { return note(api.SeineTuck, hour, to(low, high)) }

func breach(hour, low, high int) api.SeineNote { return note(api.SeineBreach, hour, to(low, high)) }

func mend(hour int) api.SeineNote { return note(api.SeineMend, hour, just(0)) }

func dogs(hour, low, high int) api.SeineNote { return note(api.SeineDogs, hour, to(low, high)) }

func sound(hour, low, high int) api.SeineNote { return note(api.SeineSound, hour, to(low, high)) }

func inclosed(low, high int, notes ...api.SeineNote) api.SeineBook {
	return api.SeineBook{Inclosed: to(low, high), Notes: notes}
}

// book is that of the chapter's examples, with further notes.
func book(more ...api.SeineNote) api.SeineBook {
	return with(inclosed(100, 110, tuck(6, 30, 30), breach(8, 1, 3), mend(18), sound(20, 45, 55)), more...)
}

// leaky is the other one, with further notes.
func leaky(more ...api.SeineNote) api.SeineBook {
	return with(inclosed(20, 24, breach(2, 2, 3)), more...)
}

// torn is the book with a note that cannot be right beside the others.
func torn() api.SeineBook { return book(sound(30, 60, 60)) }

// with is a book with further notes behind the others.
func with(b api.SeineBook, notes ...api.SeineNote) api.SeineBook {
	b.Notes = append(slices.Clone(b.Notes), notes...)
	return b
}

// without is a book without the notes of these numbers.
func without(b api.SeineBook, numbers []int) api.SeineBook {
	var kept []api.SeineNote
	for i, n := range b.Notes {
		if !slices.Contains(numbers, i) {
			kept = append(kept, n)
		}
	}
	b.Notes = kept
	return b
}

// inserted is a book with a note more, behind all that are not later: the notes in the order of their hours.
func inserted(b api.SeineBook, n api.SeineNote) api.SeineBook {
	b = with(b, n)
	slices.SortStableFunc(b.Notes, func(one, other api.SeineNote) int { return one.Hour - other.Hour })
	return b
}

// change is a book after a change.
func change(b api.SeineBook, what func(b *api.SeineBook)) api.SeineBook {
	b = with(b)
	what(&b)
	return b
}

// truth is the number of baskets that were inclosed, and that of each note.
type truth struct {
	inclosed int
	many     []int
}

// life is what the seine holds, and its rate, at each hour.
type life struct{ held, rate [61]int }

// live tells what the seine holds at each hour in a truth, as the chapter says it, and whether all notes are right.
func (x truth) live(notes []api.SeineNote) (life, bool) {
	var l life
	held, rate, right, i := x.inclosed, 0, true, 0
	for hour := range 61 {
		if hour > 0 {
			held = max(held-rate, 0)
		}
		for ; i < len(notes) && notes[i].Hour == hour; i++ {
			switch many := x.many[i]; notes[i].Kind {
			case api.SeineTuck:
				right = right && many <= held
				held -= many
			case api.SeineBreach:
				rate += many
			case api.SeineMend:
				rate = 0
			case api.SeineDogs:
				held = max(held-many, 0)
			case api.SeineSound:
				right = right && many == held
			}
		}
		l.held[hour], l.rate[hour] = held, rate
	}
	return l, right
}

// mended is how many baskets more there are at the hour 60 if all is mended behind the last note.
func (x truth) mended(notes []api.SeineNote) int {
	hour := 0
	if len(notes) > 0 {
		hour = notes[len(notes)-1].Hour
	}
	before, _ := x.live(notes)
	after, _ := truth{x.inclosed, append(slices.Clone(x.many), 0)}.live(append(slices.Clone(notes), mend(hour)))
	return after.held[60] - before.held[60]
}

// spans are what is known of the number inclosed, and then of all notes.
func spans(b api.SeineBook) []api.Span {
	l := []api.Span{b.Inclosed}
	for _, n := range b.Notes {
		l = append(l, n.Many)
	}
	return l
}

// trueOnes are all truths of a book in which all notes are right.
func trueOnes(b api.SeineBook) []truth {
	lists := [][]int{nil}
	for _, s := range spans(b) {
		var longer [][]int
		for _, l := range lists {
			for many := s.Low; many <= s.High; many++ {
				longer = append(longer, append(slices.Clone(l), many))
			}
		}
		lists = longer
	}
	var all []truth
	for _, l := range lists {
		x := truth{inclosed: l[0], many: l[1:]}
		if _, right := x.live(b.Notes); right {
			all = append(all, x)
		}
	}
	return all
}

// lives are those of all truths.
func lives(b api.SeineBook, all []truth) []life {
	var result []life
	for _, x := range all {
		l, _ := x.live(b.Notes)
		result = append(result, l)
	}
	return result
}

// spanOf is the least and the greatest number of some things.
func spanOf[T any](all []T, number func(T) int) api.Span {
	s := just(number(all[0]))
	for _, x := range all {
		s.Low, s.High = min(s.Low, number(x)), max(s.High, number(x))
	}
	return s
}

// chance is a source of books that is the same in each run.
func chance(seed uint64) *rand.Rand { return rand.New(rand.NewPCG(seed, 3)) }

// around is a span from 0 to a greatest number in which a number lies, its ends no more than so far apart.
func around(r *rand.Rand, many, most, wide int) api.Span {
	apart := r.IntN(wide + 1)
	low := many - r.IntN(apart+1)
	return to(max(low, 0), min(low+apart, most))
}

// mosts are the greatest numbers of notes of each kind.
var mosts = [...]int{400, 9, 0, 400, 400}

// anyNote is a valid note, of few baskets.
func anyNote(r *rand.Rand, wide int) api.SeineNote {
	kind := r.IntN(5)
	most := mosts[kind]
	return note(kind, r.IntN(61), around(r, r.IntN(min(most, 40)+1), most, wide))
}

// anyTrueBook is a book whose notes are all right of a seine, with what this one truly holds at each hour. So far are the ends of its spans apart, at most.
func anyTrueBook(r *rand.Rand, wide int) (api.SeineBook, life) {
	x := truth{inclosed: r.IntN([]int{20, 100, 401}[r.IntN(3)])}
	b := api.SeineBook{Inclosed: around(r, x.inclosed, 400, wide)}
	hour := 0
	for range r.IntN(9) {
		hour = min(hour+r.IntN(4)*r.IntN(4), 60)
		n := note(r.IntN(5), hour, just(0))
		l, _ := x.live(b.Notes)
		many := 0
		switch n.Kind {
		case api.SeineTuck:
			many = r.IntN(min(l.held[hour], 60) + 1)
		case api.SeineBreach:
			many = r.IntN(4)
		case api.SeineDogs:
			many = r.IntN(30)
		case api.SeineSound:
			many = l.held[hour]
		}
		n.Many = around(r, many, mosts[n.Kind], wide)
		b.Notes = append(b.Notes, n)
		x.many = append(x.many, many)
	}
	l, _ := x.live(b.Notes)
	return b, l
}

// anyBook is a valid book, some notes of which may be wrong.
func anyBook(r *rand.Rand, wide int) api.SeineBook {
	b, _ := anyTrueBook(r, wide)
	for i, n := range b.Notes {
		if r.IntN(5) == 0 {
			b.Notes[i] = anyNote(r, wide)
			b.Notes[i].Hour = n.Hour
		}
	}
	return b
}

// smallBook is a book without too many truths to go through all of them.
func smallBook(r *rand.Rand) api.SeineBook {
	for {
		b := anyBook(r, 1+r.IntN(5))
		n := 1
		for _, s := range spans(b) {
			n *= s.High - s.Low + 1
		}
		if n <= 1000 {
			return b
		}
	}
}

// quarrel is a book of few baskets and many notes, most of which cannot be right together.
func quarrel(r *rand.Rand) api.SeineBook {
	low := r.IntN(3)
	b := inclosed(low, low+r.IntN(3))
	for hour := range 8 {
		low := r.IntN(5)
		kinds := []api.SeineNote{sound(hour/2, low, low), sound(hour/2, low, low+1), tuck(hour/2, low, low), dogs(hour/2, 0, 1), breach(hour/2, 0, 1)}
		b.Notes = append(b.Notes, kinds[r.IntN(len(kinds))])
	}
	return b
}

// slowWrong is the first list of the fewest notes without which there is a truth in which all others are right.
func slowWrong(b api.SeineBook) []int {
	var best []int
	found := false
	for set := range 1 << len(b.Notes) {
		var l []int
		for i := range b.Notes {
			if set>>i&1 == 1 {
				l = append(l, i)
			}
		}
		better := !found || len(l) < len(best) || len(l) == len(best) && slices.Compare(l, best) < 0
		if better && len(trueOnes(without(b, l))) > 0 {
			best, found = l, true
		}
	}
	return best
}

// canHold are all numbers of baskets that Can tells of an hour.
func canHold(b api.SeineBook, hour int) []int {
	var l []int
	s, e := seine.Held(b, hour)
	for many := s.Low; e == api.OK && many <= s.High; many++ {
		if is, _ := seine.Can(b, hour, many); is {
			l = append(l, many)
		}
	}
	return l
}

// inside tells whether all of the one list is in the other one.
func inside(one, other []int) bool {
	return !slices.ContainsFunc(one, func(many int) bool { return !slices.Contains(other, many) })
}

// results are those of all functions of a book.
func results(b api.SeineBook, hour, many int, n api.SeineNote) []any {
	right, e1 := seine.Right(b)
	can, e2 := seine.Can(b, hour, many)
	held, e3 := seine.Held(b, hour)
	rate, e4 := seine.Rate(b, hour)
	empty, e5 := seine.Empty(b)
	saved, e6 := seine.Saved(b)
	fits, e7 := seine.Fits(b, n)
	wrong, e8 := seine.Wrong(b)
	return []any{seine.Check(b), right, e1, can, e2, held, e3, rate, e4, empty, e5, saved, e6, fits, e7, wrong, e8}
}

// errorsOf are the errors among results: those of Check, Right, Can, Held, Rate, Empty, Saved, Fits, Wrong.
func errorsOf(results []any) []api.Errno {
	var l []api.Errno
	for _, x := range results {
		if e, ok := x.(api.Errno); ok {
			l = append(l, e)
		}
	}
	return l
}
