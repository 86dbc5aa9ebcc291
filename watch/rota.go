package watch

import (
	"iter"
	"slices"

	"huer/api"
)

const minutes = api.CryLast + 1

// post is a station at a minute.
type post struct{ station, minute int }

// posts goes through a station at all minutes, increasing.
func posts(station int) iter.Seq[post] {
	return func(yield func(post) bool) {
		p, last := post{station, 0}, post{station, api.CryLast}
		for yield(p) && p != last {
			p.minute++
		}
	}
}

// shot is who surely can shoot, and the first square for it.
type shot struct{ company, square int }

// shots tells of each post whether a company surely can shoot there.
type shots map[post]bool

// have tells whether a company surely can shoot at a post.
func (s shots) have(p post) bool { return s[p] }

// times tells of each minute whether something is so then.
type times [minutes]bool

// when returns at which minutes something is so of a station.
func when(station int, is func(post) bool) times {
	var t times
	for p := range posts(station) {
		t[p.minute] = is(p)
	}
	return t
}

// list returns all minutes at which it is so, increasing.
func (t times) list() []int {
	var list []int
	for minute, is := range t {
		if is {
			list = append(list, minute)
		}
	}
	return list
}

// either returns at which minutes it is so of any of several.
func either(several ...times) times {
	var t times
	for _, one := range several {
		for minute, is := range one {
			t[minute] = t[minute] || is
		}
	}
	return t
}

// rota tells of each station at which minutes it has a sure shot.
type rota []times

// soon returns the first minute at which some station has a sure shot, and the first such station.
func (r rota) soon() (post, bool) {
	all := either(r...)
	if all == (times{}) {
		return post{}, false
	}
	minute := all.list()[0]
	hasOne := func(t times) bool { return t[minute] }
	return post{slices.IndexFunc(r, hasOne), minute}, true
}

// choices goes through all lists of so many stations, each increasing, the first one first.
func (r rota) choices(many int) iter.Seq[[]int] {
	return func(yield func([]int) bool) {
		var choose func(list []int) bool
		choose = func(list []int) bool {
			if len(list) == many {
				return yield(list)
			}
			for station := range r {
				if len(list) > 0 && station <= list[len(list)-1] {
					continue
				}
				// without room behind it each choice goes on with a list of its own
				if !choose(append(list[:len(list):len(list)], station)) {
					return false
				}
			}
			return true
		}
		choose(nil)
	}
}

// contest is between lists of stations.
type contest struct {
	better func(one, other []int) bool
}

// winner returns the first of the best lists.
func (c contest) winner(lists iter.Seq[[]int]) []int {
	var best []int
	for list := range lists {
		if best == nil || c.better(list, best) {
			best = list
		}
	}
	return best
}

// manned returns at how many minutes some of these stations have a sure shot.
func (r rota) manned(stations []int) int {
	var t times
	for _, station := range stations {
		t = either(t, r[station])
	}
	return len(t.list())
}

// man returns the first of the best lists of so many stations.
func (r rota) man(many int) []int {
	byMinutes := contest{better: func(one, other []int) bool { return r.manned(one) > r.manned(other) }}
	return byMinutes.winner(r.choices(many))
}
