package clerk

import (
	"slices"

	"huer/api"
	"huer/bond"
	"huer/bulk"
	"huer/cry"
	"huer/seine"
)

// uncounted is what is told of a lot of which nothing was counted.
var uncounted = [...]int{api.BulkNone, api.BulkNone, api.BulkNone}

// shelf is how many things of a kind there are, and how many there can be.
type shelf struct{ has, most int }

// hasRoom tells whether there can be one more.
func (s shelf) hasRoom() bool { return s.has < s.most }

// admit lets in what was added to the state of the task; it fails if that is not valid, if there was no room for it, or if its book cannot be true with it.
func (t *task) admit(isValid bool, wasRoom func() bool) {
	require(isValid, api.ErrRange)
	require(wasRoom(), api.ErrFull)
	require(t.isTrue(t.state), api.ErrClerkFalse)
}

// cry adds a cry, and tells how many squares there are at its minute.
func (t *task) cry() string {
	n := t.numbers
	cried := api.CryCry{Huer: n[0], Minute: n[1], Kind: n[2], From: pointing(n[3], n[4]), To: pointing(n[5], n[6])}
	alone, before := t.bay, shelf{len(t.cries), api.CryMany}
	alone.Cries = []api.CryCry{cried}
	t.cries = added(t.cries, cried)
	t.admit(cry.Check(alone) == api.OK, before.hasRoom)
	squares, e := cry.Where(t.shoal(), cried.Minute)
	return answer(e, len(squares))
}

// pointing returns a direction by the numbers with which a line tells it.
func pointing(along, out int) api.CryPointing {
	return api.CryPointing{Along: along - api.ClerkAlong, Out: out}
}

// note adds a note, and tells what the seine holds at its hour.
func (t *task) note() string {
	n := t.numbers
	noted := api.SeineNote{Kind: n[0], Hour: n[1], Many: api.Span{Low: n[2], High: n[3]}}
	alone, before := t.seine(), shelf{len(t.notes), api.SeineNotes}
	alone.Notes = []api.SeineNote{noted}
	t.notes = placed(t.notes, noted)
	t.admit(seine.Check(alone) == api.OK, before.hasRoom)
	return ends(seine.Held(t.seine(), noted.Hour))
}

// placed returns notes with one more, behind all whose hour is not greater, in new memory.
func placed(notes []api.SeineNote, more api.SeineNote) []api.SeineNote {
	at := len(notes)
	for at > 0 && notes[at-1].Hour > more.Hour {
		at--
	}
	return slices.Insert(handed(notes), at, more)
}

// lot adds a lot, and tells how many hogsheads all lots fill.
func (t *task) lot() string {
	n := t.numbers
	carried := api.BulkLot{Told: [...]int{n[1], n[2], n[3]}, Waste: api.Span{Low: n[4], High: n[5]}}
	alone, before := t.quay(), shelf{len(t.lots), api.BulkLots}
	alone.Bulk.Lots, alone.Ready = []api.BulkLot{carried}, []int{n[0]}
	t.lots, t.ready = added(t.lots, carried), added(t.ready, n[0])
	t.admit(bond.Check(alone) == api.OK, before.hasRoom)
	return ends(bulk.Casks(t.cellar()))
}

// buy adds a bond of the merchant who is named, and tells what it gets.
func (t *task) buy() string {
	n := t.numbers
	bought := api.BondBond{Many: n[0], Day: n[1], Fine: n[2]}
	alone, before := t.quay(), shelf{len(t.bonds), api.BondBonds}
	alone.Bonds = []api.BondBond{bought}
	t.bonds, t.buyers = added(t.bonds, bought), added(t.buyers, t.who)
	t.admit(bond.Check(alone) == api.OK, before.hasRoom)
	return ends(bond.Gets(t.quay(), before.has))
}

// isShoalTrue tells whether all cries can be right.
func (s state) isShoalTrue() bool {
	is, _ := cry.Right(s.shoal())
	return is
}

// isSeineTrue tells whether all notes can be right.
func (s state) isSeineTrue() bool {
	is, _ := seine.Right(s.seine())
	return is
}

// isCellarTrue tells whether all counts can be right, if they could before the last lot.
func (s state) isCellarTrue() bool {
	last := len(s.lots) - 1
	if last < 0 || s.lots[last].Told == uncounted {
		return true // what was not counted cannot be wrong
	}
	is, _ := bulk.Right(s.cellar())
	return is
}
