package clerk

import (
	"slices"
	"strings"

	"huer/api"
)

// setup is what a clerk was made with. It has fields of its own, since those of api.ClerkSetup, once embedded, could be written from other packages.
type setup struct {
	bay      api.CryBook
	inclosed api.Span
	holds    [3]api.Span
	wrongBy  [3]int
	names    []string
}

// state is the setup of a clerk, and all that lines told it: the day and the merchant of each lot and bond stand in lists of their own.
type state struct {
	setup
	cries   []api.CryCry
	notes   []api.SeineNote
	lots    []api.BulkLot
	ready   []int
	bonds   []api.BondBond
	buyers  []merchant
	journal []string
}

// merchant is the name and the number of a merchant.
type merchant struct {
	name   string
	number int
}

// newSetup returns a valid setup, which shares no memory with the one that was given.
func newSetup(s api.ClerkSetup) setup {
	own := setup{bay: s.Cry, inclosed: s.Inclosed, holds: s.Holds, wrongBy: s.Error}
	own.bay.Land, own.bay.Cries = copied(s.Cry.Land), nil
	for _, name := range s.Names {
		own.names = append(own.names, strings.Clone(name))
	}
	return own
}

// named returns the merchant who has a name; it fails if there is none.
func (s setup) named(name string) merchant {
	number := slices.Index(s.names, name)
	require(number >= 0, api.ErrClerkUnknown)
	return merchant{name: s.names[number], number: number}
}

// shoal returns the book of layer 1.
func (s state) shoal() api.CryBook {
	b := s.bay
	b.Cries = handed(s.cries)
	return b
}

// seine returns the book of layer 3.
func (s state) seine() api.SeineBook {
	return api.SeineBook{Inclosed: s.inclosed, Notes: handed(s.notes)}
}

// cellar returns the book of layer 5.
func (s state) cellar() api.BulkBook {
	return api.BulkBook{Holds: s.holds, Error: s.wrongBy, Lots: handed(s.lots)}
}

// quay returns the book of layer 7.
func (s state) quay() api.BondBook {
	return api.BondBook{Bulk: s.cellar(), Ready: handed(s.ready), Bonds: handed(s.bonds)}
}

// handed returns a list that is handed on: whoever appends to it does not write behind it.
func handed[T any](list []T) []T { return list[:len(list):len(list)] }

// added returns a list with one thing more, in new memory.
func added[T any](list []T, more T) []T { return append(handed(list), more) }

// copied returns a list in new memory.
func copied[T any](list []T) []T { return append([]T(nil), list...) }
