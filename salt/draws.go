package salt

import "huer/api"

// draws is how many bushels are drawn on each day.
type draws [api.SaltDays]int

// first returns the first day on which something is drawn, or how many days there can be if there is none.
func (d draws) first() int {
	for day, bushels := range d {
		if bushels > 0 {
			return day
		}
	}
	return len(d)
}

// before returns what is drawn on the days before one.
func (d draws) before(day int) draws {
	clear(d[day:])
	return d
}

// total returns what is drawn on all days together.
func (d draws) total() int {
	total := 0
	for _, bushels := range d {
		total += bushels
	}
	return total
}
