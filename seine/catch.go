package seine

import (
	"cmp"
	"maps"
	"slices"

	"huer/api"
)

// kinds is how many notes there are of each kind.
type kinds [api.SeineSound + 1]int

// catch is a book that is calculated with, valid but that it can have one note more, and how many notes there are of each kind.
type catch struct {
	api.SeineBook
	kinds kinds
}

// newCatch returns the catch of a book.
func newCatch(b api.SeineBook) catch {
	c := catch{SeineBook: b}
	for _, note := range b.Notes {
		c.kinds[note.Kind]++
	}
	return c
}

// with returns a book with a note more, behind all that are not later.
func with(b api.SeineBook, note api.SeineNote) api.SeineBook {
	at := 0
	for at < len(b.Notes) && b.Notes[at].Hour <= note.Hour {
		at++
	}
	// without room behind them append cannot write into the memory of the caller
	notes := append(b.Notes[:at:at], note)
	return api.SeineBook{Inclosed: b.Inclosed, Notes: append(notes, b.Notes[at:]...)}
}

// last returns the hour of the last note, or the hour 0 without notes.
func (c catch) last() int {
	if c.kinds == (kinds{}) {
		return 0
	}
	return c.Notes[len(c.Notes)-1].Hour
}

// since returns how many hours pass between a note and the one before it, or the hour 0.
func (c catch) since(note int) int {
	if note == 0 {
		return c.Notes[note].Hour
	}
	return c.Notes[note].Hour - c.Notes[note-1].Hour
}

// start goes through all states at the hour 0, before all notes.
func (c catch) start(yield func(state) bool) {
	for many := range numbers(c.Inclosed) {
		if !yield(state{held: many}) {
			return
		}
	}
}

// claim returns a note, by the state behind the note before it.
func (c catch) claim(note int, from state) claim {
	return claim{SeineNote: c.Notes[note], before: from.after(c.since(note))}
}

// wrong returns the best list of notes that are left out. Each state has the best one by which it can be: what follows is the same for all of them.
func (c catch) wrong() []int {
	best := map[state][]int{}
	for s := range c.start {
		best[s] = nil
	}
	for note := range c.Notes {
		behind := map[state][]int{}
		offer := func(s state, list []int) {
			if known, ok := behind[s]; !ok || compare(list, known) < 0 {
				behind[s] = list
			}
		}
		for from, list := range best {
			n := c.claim(note, from)
			// without room behind it each choice goes on with a list of its own
			offer(n.before, append(list[:len(list):len(list)], note))
			for s := range n.behind {
				offer(s, list)
			}
		}
		best = behind
	}
	return slices.MinFunc(slices.Collect(maps.Values(best)), compare)
}

// compare tells which of two lists is better, as numbers are compared: the shorter one, or of two that are as long the one that comes first.
func compare(one, other []int) int {
	return cmp.Or(cmp.Compare(len(one), len(other)), slices.Compare(one, other))
}
