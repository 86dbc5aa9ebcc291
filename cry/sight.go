package cry

import "huer/api"

// sight is a cry, with the column below which its huer stands.
type sight struct {
	api.CryCry
	column int
}

// between tells whether a place is between the directions of the cry.
func (s sight) between(p place) bool {
	along, out := p.column-s.column, p.row+1
	return s.From.Along*out >= s.From.Out*along && along*s.To.Out >= out*s.To.Along
}

// outside tells whether a place is not between the directions of the cry.
func (s sight) outside(p place) bool { return !s.between(p) }

// forbids tells whether the cry would be wrong if the shoal were in a place.
func (s sight) forbids(p place) bool {
	right := [...]func(sight, place) bool{api.CrySees: sight.between, api.CryNot: sight.outside}
	return !right[s.Kind](s, p)
}
