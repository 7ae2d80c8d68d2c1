package fire

import (
	"cmp"
	"slices"

	"flong/api"
)

// carrying is a place for each thing, how many things are carried, and what it costs.
type carrying struct {
	places      []int
	many, pence int
}

// compare returns a number below 0 if a carrying is less than another one.
func (c carrying) compare(other carrying) int {
	return cmp.Or(
		cmp.Compare(c.pence, other.pence),
		cmp.Compare(c.many, other.many),
		slices.Compare(c.places, other.places),
	)
}

// carried returns the carrying to some places.
func (w town) carried(places []int) carrying {
	c := carrying{places: slices.Clone(places)}
	for thing, place := range places {
		if place != w.Places[thing] {
			c.many++
			c.pence += w.Carry[thing]
		}
	}
	return c
}

// isRemedy reports whether the town with some places is valid and safe. That it is valid depends on the places only by the room.
func (w town) isRemedy(places []int) bool {
	w.Places = places
	return w.hasRoom() && w.safe()
}

// least returns the least remedy, and whether there is one.
func (w town) least() (carrying, bool) {
	var least carrying
	found := false
	places := slices.Clone(w.Places)
	// try carries the things from one on to all buildings; those that are not there stay.
	var try func(thing int)
	try = func(thing int) {
		if thing == len(places) {
			if c := w.carried(places); (!found || c.compare(least) < 0) && w.isRemedy(places) {
				least, found = c, true
			}
			return
		}
		if !w.isThere(thing) {
			try(thing + 1)
			return
		}
		for building := range w.Rooms {
			places[thing] = building
			try(thing + 1)
		}
	}
	try(0)
	return least, found
}

// remedy returns the least remedy of a given town; an empty one with an error.
func remedy(t api.FireTown) (carrying, api.Errno) {
	w, e := work(t, true)
	if e != api.OK {
		return carrying{}, e
	}
	c, found := w.least()
	if !found {
		return carrying{}, api.ErrNone
	}
	return c, api.OK
}
