package cry_test

import (
	"math/rand/v2"
	"slices"

	"huer/api"
	"huer/cry"
)

func to(along, out int) api.CryPointing { return api.CryPointing{Along: along, Out: out} }

func sees(huer, minute int, from, until api.CryPointing) api.CryCry {
	return api.CryCry{Huer: huer, Minute: minute, Kind: api.CrySees, From: from, To: until}
}

func not(huer, minute int, from, until api.CryPointing) api.CryCry {
	return api.CryCry{Huer: huer, Minute: minute, Kind: api.CryNot, From: from, To: until}
}

// bay is that of the chapter's examples.
func bay() api.CryBook {
	return api.CryBook{Wide: 6, High: 4, Heads: [2]int{0, 5}, Swim: 1, Cries: []api.CryCry{
		sees(0, 0, to(1, 1), to(1, 2)), sees(1, 1, to(-1, 1), to(-2, 1)),
	}}
}

// calm is the bay of the chapter's examples, in which the shoal does not move.
func calm() api.CryBook {
	b := bay()
	b.Swim = 0
	return b
}

// still is calm, with the cry that cannot be right beside the others.
func still() api.CryBook {
	b := calm()
	b.Cries = append(b.Cries, not(0, 9, to(1, 1), to(1, 2)))
	return b
}

// dry is a bay that is all land.
func dry() api.CryBook { return api.CryBook{Wide: 2, High: 1, Land: []int{0, 1}} }

// row is a bay of one row with the huers below its columns 0 and 9.
func row(wide, swim int, cries ...api.CryCry) api.CryBook {
	return api.CryBook{Wide: wide, High: 1, Heads: [2]int{0, 9}, Swim: swim, Cries: cries}
}

// at is a cry that the shoal is just in this column of a row.
func at(minute, column int) api.CryCry { return sees(0, minute, to(column, 1), to(column, 1)) }

// impossible is a cry of a shoal behind the bay, which can never be right.
func impossible(minute int) api.CryCry { return sees(0, minute, to(-1, 1), to(-9, 1)) }

// with is a book with further cries.
func with(b api.CryBook, cries ...api.CryCry) api.CryBook {
	b.Cries = append(slices.Clone(b.Cries), cries...)
	return b
}

// without is a book without the cries of these numbers.
func without(b api.CryBook, numbers []int) api.CryBook {
	var kept []api.CryCry
	for i, c := range b.Cries {
		if !slices.Contains(numbers, i) {
			kept = append(kept, c)
		}
	}
	b.Cries = kept
	return b
}

// chance is a source of books that is the same in each run.
func chance(seed uint64) *rand.Rand { return rand.New(rand.NewPCG(seed, 1)) }

// anyCry is a valid cry.
func anyCry(r *rand.Rand) api.CryCry {
	for {
		c := api.CryCry{Huer: r.IntN(2), Minute: r.IntN(31), Kind: r.IntN(2)}
		if r.IntN(2) == 0 {
			c.Minute = r.IntN(5)
		}
		c.From = to(r.IntN(19)-9, 1+r.IntN(9))
		c.To = to(r.IntN(19)-9, 1+r.IntN(9))
		if c.From.Along*c.To.Out >= c.From.Out*c.To.Along {
			return c
		}
	}
}

// anyBook is a valid book with so many cries, which need not be right together.
func anyBook(r *rand.Rand, cries int) api.CryBook {
	b := api.CryBook{Wide: 1 + r.IntN(10), High: 1 + r.IntN(8), Heads: [2]int{r.IntN(21) - 5, r.IntN(21) - 5}, Swim: r.IntN(4)}
	for _, s := range r.Perm(b.Wide * b.High)[:r.IntN(min(10, b.Wide*b.High)+1)] {
		b.Land = append(b.Land, s)
	}
	for range cries {
		b.Cries = append(b.Cries, anyCry(r))
	}
	return b
}

// between tells whether a square is between the directions of a cry, as the chapter says it.
func between(b api.CryBook, c api.CryCry, square int) bool {
	a, o := square%b.Wide-b.Heads[c.Huer], square/b.Wide+1
	return !(c.From.Along*o < c.From.Out*a) && !(a*c.To.Out < o*c.To.Along)
}

// near tells whether the shoal can swim from one square to another one in a minute.
func near(b api.CryBook, one, other int) bool {
	columns, rows := one%b.Wide-other%b.Wide, one/b.Wide-other/b.Wide
	return -b.Swim <= columns && columns <= b.Swim && -b.Swim <= rows && rows <= b.Swim
}

// anyPath is a way that a shoal can truly swim, or nothing if all is land.
func anyPath(r *rand.Rand, b api.CryBook) []int {
	var path []int
	for range 31 {
		var next []int
		for s := range b.Wide * b.High {
			if !slices.Contains(b.Land, s) && (len(path) == 0 || near(b, path[len(path)-1], s)) {
				next = append(next, s)
			}
		}
		if len(next) == 0 {
			return nil
		}
		path = append(path, next[r.IntN(len(next))])
	}
	return path
}

// rightly is a cry that is right of a shoal that swims on a path.
func rightly(b api.CryBook, path []int, c api.CryCry) api.CryCry {
	c.Kind = api.CryNot
	if between(b, c, path[c.Minute]) {
		c.Kind = api.CrySees
	}
	return c
}

// anyTrueBook is a book all of whose cries are right of the shoal that swims on the path.
func anyTrueBook(r *rand.Rand, cries int) (api.CryBook, []int) {
	for {
		b := anyBook(r, 0)
		path := anyPath(r, b)
		if path == nil {
			continue
		}
		for range cries {
			b.Cries = append(b.Cries, rightly(b, path, anyCry(r)))
		}
		return b, path
	}
}

// slowly is where the shoal can be at each minute: from all squares that no cry of their minute forbids those are taken away, again and again, that have none to come from or to go on to.
func slowly(b api.CryBook) [31][]int {
	var open [31][]int
	for m := range open {
		for s := range b.Wide * b.High {
			wrong := func(c api.CryCry) bool { return c.Minute == m && between(b, c, s) != (c.Kind == api.CrySees) }
			if !slices.Contains(b.Land, s) && !slices.ContainsFunc(b.Cries, wrong) {
				open[m] = append(open[m], s)
			}
		}
	}
	for changed := true; changed; {
		changed = false
		for m := range open {
			alone := func(s int) bool {
				reached := func(o int) bool { return near(b, s, o) }
				return m > 0 && !slices.ContainsFunc(open[m-1], reached) || m < 30 && !slices.ContainsFunc(open[m+1], reached)
			}
			before := len(open[m])
			open[m] = slices.DeleteFunc(open[m], alone)
			changed = changed || len(open[m]) != before
		}
	}
	return open
}

// everywhere is what Where tells of all minutes.
func everywhere(b api.CryBook) [31][]int {
	var all [31][]int
	for m := range all {
		all[m], _ = cry.Where(b, m)
	}
	return all
}

// inside tells whether all of the one list is in the other one.
func inside(one, other []int) bool {
	return !slices.ContainsFunc(one, func(s int) bool { return !slices.Contains(other, s) })
}

// incloses tells whether a seine that is shot at a square incloses another one.
func incloses(b api.CryBook, at, wide, high, square int) bool {
	column, row := square%b.Wide-at%b.Wide, square/b.Wide-at/b.Wide
	return column >= 0 && column < wide && row >= 0 && row < high
}

// lists are all strictly increasing lists of numbers below n, the fewest first, then by their elements.
func lists(n int) [][]int {
	var all [][]int
	for set := range 1 << n {
		var l []int
		for i := range n {
			if set>>i&1 == 1 {
				l = append(l, i)
			}
		}
		all = append(all, l)
	}
	slices.SortFunc(all, func(one, other []int) int {
		if len(one) != len(other) {
			return len(one) - len(other)
		}
		return slices.Compare(one, other)
	})
	return all
}
