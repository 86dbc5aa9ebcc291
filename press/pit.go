package press

import "huer/api"

// endless is more gallons than ever run into a pit: no lot has more hogsheads than hundreds of fish.
const endless = api.BulkLots*api.BulkFish*api.PressGives*api.PressLong + 1

// emptied returns the first day whose oil is in a pit on a day, if there is some.
func (m mill) emptied(at spot) int {
	first := 0
	for day := range at.day {
		if _, is := m.bailed[spot{pit: at.pit, day: day}]; is {
			first = day + 1
		}
	}
	return first
}

// bail returns the first bail of a pit from a day on, and whether there is one.
func (m mill) bail(from spot) (api.PressBail, bool) {
	for later := range api.PressDay - from.day + 1 {
		if number, is := m.bailed[spot{pit: from.pit, day: from.day + later}]; is {
			return m.Bails[number], true
		}
	}
	return api.PressBail{}, false
}

// allowed returns how many gallons must have run into a pit since it was empty for the measure of a bail to be right (a span in which no number lies, if it cannot be).
func (m mill) allowed(b api.PressBail) api.Span {
	room := m.Pits[b.Pit]
	switch {
	case b.Told == api.PressNone:
		return api.Span{Low: 0, High: endless}
	case b.Told < room:
		return api.Span{Low: b.Told, High: b.Told}
	case b.Told == room:
		// what ran over was not measured
		return api.Span{Low: room, High: endless}
	}
	return api.Span{Low: 1, High: 0}
}

// ran returns how many gallons ran into a pit since it was empty, up to the end of a day, at least and at most of those truths in which the measure of the next bail is right (no other measure has to do with it). What ran over is in it, so that a pit has just as much, or its room if that is less.
func (p pressing) ran(at spot) api.Span {
	free := p.flows(at.pit, p.emptied(at), at.day)
	bail, is := p.bail(at)
	if !is {
		return free
	}
	allowed, later := p.allowed(bail), p.flows(at.pit, at.day+1, bail.Day)
	return api.Span{Low: max(free.Low, allowed.Low-later.High), High: min(free.High, allowed.High-later.Low)}
}

// isRight tells whether the measure of a bail can be right.
func (p pressing) isRight(b api.PressBail) bool {
	found := p.ran(spotOf(b))
	return found.Low <= found.High
}

// falseMeasures returns the numbers of all bails whose measures cannot be right.
func (p pressing) falseMeasures() []int {
	var list []int
	for number, bail := range p.Bails {
		if !p.isRight(bail) {
			list = append(list, number)
		}
	}
	return list
}

// holds returns what is in a pit at the end of a day, at least and at most. (Each number between them can be, too.)
func (p pressing) holds(at spot) api.Span {
	room, ran := p.Pits[at.pit], p.ran(at)
	return api.Span{Low: min(room, ran.Low), High: min(room, ran.High)}
}

// spills tells whether a pit runs over on a day if as much ran as one end says: at the low end it surely does, at the high end it can. A pit that is full does not run over on a day on which nothing runs.
func (p pressing) spills(at spot, e end) bool {
	return e.of(p.ran(at)) > p.Pits[at.pit] && e.of(p.flow(at)) > 0
}
