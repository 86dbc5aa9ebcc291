package seine

import (
	"iter"

	"huer/api"
)

// claim is a note, and the state of the seine before it.
type claim struct {
	api.SeineNote
	before state
}

// right tells whether the note is right with one of its numbers.
func (c claim) right(many int) bool {
	switch c.Kind {
	case api.SeineTuck:
		return many <= c.before.held
	case api.SeineSound:
		return many == c.before.held
	}
	return true
}

// behind goes through all states that there can be behind the note, if it is right.
func (c claim) behind(yield func(state) bool) {
	does := [...]func(state, int) state{
		api.SeineTuck:   state.take,
		api.SeineBreach: state.tear,
		api.SeineMend:   state.mend,
		api.SeineDogs:   state.lose,
		api.SeineSound:  state.keep,
	}
	for many := range only(numbers(c.Many), c.right) {
		if !yield(does[c.Kind](c.before, many)) {
			return
		}
	}
}

// numbers goes through all numbers of a span, increasing.
func numbers(s api.Span) iter.Seq[int] {
	return func(yield func(int) bool) {
		for more := range s.High - s.Low + 1 {
			if !yield(s.Low + more) {
				return
			}
		}
	}
}

// only goes through those of some numbers of which something is so.
func only(all iter.Seq[int], is func(int) bool) iter.Seq[int] {
	return func(yield func(int) bool) {
		for number := range all {
			if is(number) && !yield(number) {
				return
			}
		}
	}
}
