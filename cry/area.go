package cry

import "cmp"

// place is a column and a row, which need not be in the bay.
type place struct{ column, row int }

// area is all places of the columns and rows from those of near to those of far.
type area struct{ near, far place }

// clip returns the place of the area that is nearest to p.
func (a area) clip(p place) place {
	return place{
		column: min(greatest(p.column, a.near.column), a.far.column),
		row:    min(greatest(p.row, a.near.row), a.far.row),
	}
}

// holds tells whether a place is in the area: just then clipping leaves it where it is.
func (a area) holds(p place) bool { return a.clip(p) == p }

// apart returns by how much the columns, or the rows, of both corners differ, at most.
func (a area) apart() int {
	return greatest(a.far.column-a.near.column, a.far.row-a.near.row)
}

// greatest returns the greatest of several values.
func greatest[N cmp.Ordered](first N, others ...N) N {
	for _, other := range others {
		if other > first {
			first = other
		}
	}
	return first
}
