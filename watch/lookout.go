package watch

import (
	"slices"

	"huer/api"
	"huer/cry"
	"huer/turn"
)

// lookout is a valid book that is calculated with.
type lookout struct{ api.WatchBook }

// at returns the place of a square.
func (l lookout) at(square int) place {
	return place{column: square % l.Cry.Wide, row: square / l.Cry.Wide}
}

// area returns so many columns and rows, from those of a square on, be they in the bay or not.
func (l lookout) area(square, wide, high int) area {
	near := l.at(square)
	return area{near: near, far: place{column: near.column + wide - 1, row: near.row + high - 1}}
}

// ground returns the ground of a station.
func (l lookout) ground(station int) area {
	g := l.Grounds[station]
	return l.area(g.At, g.Wide, g.High)
}

// squares returns all squares of an area, increasing.
func (l lookout) squares(a area) []int {
	var list []int
	for square := range l.Cry.Wide * l.Cry.High {
		if a.holds(l.at(square)) {
			list = append(list, square)
		}
	}
	return list
}

// shoal returns where the shoal can be at a minute, in a book that can be true.
func (l lookout) shoal(minute int) shoal {
	squares, _ := cry.Where(l.Cry, minute)
	var s shoal
	for _, square := range squares {
		s = append(s, l.at(square))
	}
	return s
}

// owners returns all companies that can have the turn at a post.
func (l lookout) owners(p post) []int {
	companies, _ := turn.Owners(l.Turn, p.station, l.Start+p.minute)
	return companies
}

// shot returns the company that surely can shoot at a post, where such a shoal is seen then, and the first square for it.
func (l lookout) shot(p post, s shoal) (shot, bool) {
	owners := l.owners(p)
	if len(owners) > 1 {
		return shot{}, false
	}
	square, ok := l.first(l.Nets[owners[0]], l.ground(p.station), s)
	if !ok {
		return shot{}, false
	}
	return shot{company: owners[0], square: square}, true
}

// first returns the first square at which a seine stays in a ground, and surely incloses the shoal.
func (l lookout) first(net api.WatchNet, ground area, s shoal) (int, bool) {
next:
	for square := range l.Cry.Wide * l.Cry.High {
		seine := l.area(square, net.Wide, net.High)
		for _, corner := range [...]place{seine.near, seine.far} {
			if !ground.holds(corner) {
				continue next
			}
		}
		if s.surelyIs(seine) {
			return square, true
		}
	}
	return 0, false
}

// shots returns at which posts of the watch a company surely can shoot.
func (l lookout) shots() shots {
	all := shots{}
	for minute := range minutes {
		s := l.shoal(minute)
		for station := range l.Grounds {
			p := post{station, minute}
			_, all[p] = l.shot(p, s)
		}
	}
	return all
}

// rota returns at which minutes each station has a sure shot.
func (l lookout) rota() rota {
	isSure := l.shots().have
	var r rota
	for station := range l.Grounds {
		r = append(r, when(station, isSure))
	}
	return r
}

// may returns at which minutes a company can have its turn at a station while the shoal is in the ground.
func (l lookout) may(station, company int) times {
	ground := l.ground(station)
	return when(station, func(p post) bool {
		return slices.Contains(l.owners(p), company) && l.shoal(p.minute).canBe(ground)
	})
}

// seen returns at which minutes the shoal can be in some ground.
func (l lookout) seen() times {
	var t times
	for minute := range t {
		s := l.shoal(minute)
		for station := range l.Grounds {
			t[minute] = t[minute] || s.canBe(l.ground(station))
		}
	}
	return t
}

// quarrel returns all bounds on which a shot of any company hangs at a post.
func (l lookout) quarrel(p post) []int {
	b := l.Turn
	minute := l.Start + p.minute
	var bounds []int
	for company := range b.Companies {
		// the book's own shots make no difference, and there could be no room for one more
		b.Shots = []api.TurnShot{{Station: p.station, Company: company, At: api.Span{Low: minute, High: minute}}}
		hung, _ := turn.Hangs(b, 0)
		bounds = append(bounds, hung...)
	}
	slices.Sort(bounds)
	return slices.Compact(bounds)
}
