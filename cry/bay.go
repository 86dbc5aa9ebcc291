package cry

import (
	"iter"
	"slices"

	"huer/api"
)

const (
	minutes     = api.CryLast + 1
	mostSquares = api.CryWide * api.CryHigh
)

// places tells of each square, by its number, whether the shoal can be there.
type places [mostSquares]bool

// chart is where the shoal can be at each minute.
type chart [minutes]places

// list returns the numbers of all squares in which the shoal can be.
func (p places) list() []int {
	var numbers []int
	for square, is := range p {
		if is {
			numbers = append(numbers, square)
		}
	}
	return numbers
}

// course is which way time goes: the minute at which it begins, and which one follows.
type course struct {
	start int
	next  func(minute int) int
}

// onward is the course from the first minute to the last one.
func onward() course {
	return course{start: 0, next: func(minute int) int { return minute + 1 }}
}

// back is the course from the last minute to the first one.
func back() course {
	return course{start: api.CryLast, next: func(minute int) int { return minute - 1 }}
}

// bay is a valid book that is calculated with, and its land by columns and rows.
type bay struct {
	api.CryBook
	land map[place]bool
}

// newBay returns the bay of a valid book.
func newBay(b api.CryBook) bay {
	y := bay{CryBook: b, land: map[place]bool{}}
	for _, square := range b.Land {
		y.land[y.at(square)] = true
	}
	return y
}

// with returns the bay with other cries.
func (y bay) with(cries []api.CryCry) bay {
	y.Cries = cries
	return y
}

// at returns the place of a square.
func (y bay) at(square int) place {
	return place{column: square % y.Wide, row: square / y.Wide}
}

// squares goes through all squares of the bay, increasing, with their places.
func (y bay) squares() iter.Seq2[int, place] {
	return func(yield func(int, place) bool) {
		for square := range y.Wide * y.High {
			if !yield(square, y.at(square)) {
				return
			}
		}
	}
}

// sight returns a cry with its huer's column.
func (y bay) sight(cry api.CryCry) sight {
	return sight{CryCry: cry, column: y.Heads[cry.Huer]}
}

// seen returns all squares that are no land and between the directions of a cry.
func (y bay) seen(cry api.CryCry) places {
	var result places
	s := y.sight(cry)
	for square, p := range y.squares() {
		result[square] = !y.land[p] && s.between(p)
	}
	return result
}

// allowed returns those of some squares that neither land nor a cry of the minute forbids.
func (y bay) allowed(minute int, some places) places {
	var forbids []func(place) bool
	for _, cry := range y.Cries {
		if cry.Minute == minute {
			forbids = append(forbids, y.sight(cry).forbids)
		}
	}
	var result places
next:
	for square, p := range y.squares() {
		for _, forbidden := range forbids {
			if forbidden(p) {
				continue next
			}
		}
		result[square] = some[square] && !y.land[p]
	}
	return result
}

// around returns all that the shoal can swim to from a place in a minute, land too.
func (y bay) around(p place) area {
	whole := area{far: place{column: y.Wide - 1, row: y.High - 1}}
	return area{
		near: whole.clip(place{column: p.column - y.Swim, row: p.row - y.Swim}),
		far:  whole.clip(place{column: p.column + y.Swim, row: p.row + y.Swim}),
	}
}

// swum returns all squares that the shoal can swim to from some in a minute, land too.
func (y bay) swum(some places) places {
	var result places
	for square, p := range y.squares() {
		if !some[square] {
			continue
		}
		reach := y.around(p)
		for row := reach.near.row; row <= reach.far.row; row++ {
			for column := reach.near.column; column <= reach.far.column; column++ {
				result[row*y.Wide+column] = true
			}
		}
	}
	return result
}

// follow returns in which squares the shoal can be at each minute by the cries of this minute, and of those before it on the course.
func (y bay) follow(c course) chart {
	var result chart
	var swim func(minute int, some places)
	swim = func(minute int, some places) {
		if !isMinute(minute) {
			return
		}
		here := y.allowed(minute, some)
		if here == (places{}) {
			return // from nowhere it swims nowhere
		}
		result[minute] = here
		swim(c.next(minute), y.swum(here))
	}
	var anywhere places
	for square := range anywhere {
		anywhere[square] = true
	}
	swim(c.start, anywhere)
	return result
}

// truths returns all squares in which the shoal is in some truth: those to which it can come, and from which it can go on.
func (y bay) truths() chart {
	come, goOn := y.follow(onward()), y.follow(back())
	var result chart
	for minute := range minutes {
		for square, can := range come[minute] {
			result[minute][square] = can && goOn[minute][square]
		}
	}
	return result
}

// right tells whether the book can be true.
func (y bay) right() bool { return y.follow(onward())[api.CryLast] != (places{}) }

// drop returns the first list of so many cries without which the book can be true.
func (y bay) drop(many int) ([]int, bool) {
	var choose func(dropped []int, first int) ([]int, bool)
	choose = func(dropped []int, first int) ([]int, bool) {
		if len(dropped) == many {
			return dropped, y.without(dropped).right()
		}
		for cry := first; cry < len(y.Cries); cry++ {
			// without room behind it each choice goes on with a list of its own
			list := append(dropped[:len(dropped):len(dropped)], cry)
			if found, ok := choose(list, cry+1); ok {
				return found, true
			}
		}
		return nil, false
	}
	return choose(nil, 0)
}

// without returns the bay without some of its cries.
func (y bay) without(dropped []int) bay {
	var kept []api.CryCry
	for number, cry := range y.Cries {
		if !slices.Contains(dropped, number) {
			kept = append(kept, cry)
		}
	}
	return y.with(kept)
}

// bounds returns the least area that has some squares, of which there is at least one.
func (y bay) bounds(some places) area {
	result := area{near: place{column: y.Wide, row: y.High}}
	for square, p := range y.squares() {
		if some[square] {
			result.near = place{column: min(result.near.column, p.column), row: min(result.near.row, p.row)}
			result.far = place{column: greatest(result.far.column, p.column), row: greatest(result.far.row, p.row)}
		}
	}
	return result
}

// shot returns the first square, be it land, at which a seine incloses all of some squares.
func (y bay) shot(some places, wide, high int) (int, bool) {
	needed := y.bounds(some)
	for square, p := range y.squares() {
		inclosed := area{near: p, far: place{column: p.column + wide - 1, row: p.row + high - 1}}
		if inclosed.holds(needed.near) && inclosed.holds(needed.far) {
			return square, true
		}
	}
	return 0, false
}
