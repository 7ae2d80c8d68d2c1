package fire

import (
	"slices"

	"flong/api"
	"flong/changes"
)

// town is a given town at work, with what each thing lacks of the changes of its page; this is the same whatever is carried.
type town struct {
	api.FireTown
	lacks []bits
}

// work returns a town at work, or the error of a call that names something, which may be right or wrong.
func work(t api.FireTown, right bool) (town, api.Errno) {
	w := town{FireTown: t}
	if !w.valid() {
		return town{}, api.ErrFire
	}
	if !right {
		return town{}, api.ErrArg
	}
	w.lacks = w.lacking()
	return w, api.OK
}

func hasThing(t api.FireTown, thing int) bool       { return between(thing, 0, len(t.House.Things)-1) }
func hasBuilding(t api.FireTown, building int) bool { return between(building, 0, len(t.Rooms)-1) }

func isPage(t api.FireTown, page int) bool {
	return hasThing(t, page) && t.House.Things[page].Of == api.ChangeNone
}

func between(n, least, most int) bool {
	return least <= n && n <= most
}

func allBetween(l []int, least, most int) bool {
	return !slices.ContainsFunc(l, func(n int) bool { return !between(n, least, most) })
}

func (w town) valid() bool {
	things := len(w.House.Things)
	return changes.Check(w.House) == api.OK &&
		between(len(w.Rooms), 1, api.MaxFireBuildings) && allBetween(w.Rooms, 0, api.MaxFireRoom) &&
		len(w.Places) == things && allBetween(w.Places, 0, len(w.Rooms)-1) &&
		len(w.Carry) == things && allBetween(w.Carry, 0, api.MaxFirePence) &&
		between(w.Minute, 0, api.MaxChangeMinute) && w.hasRoom()
}

// hasRoom reports whether in no building there are more things that are there than it has room for.
func (w town) hasRoom() bool {
	var many [api.MaxFireBuildings]int
	for thing, place := range w.Places {
		if w.isThere(thing) {
			many[place]++
		}
	}
	for building, room := range w.Rooms {
		if many[building] > room {
			return false
		}
	}
	return true
}

func (w town) isThere(thing int) bool { return w.House.Things[thing].At <= w.Minute }

// page returns the page of a thing.
func (w town) page(thing int) int {
	for w.House.Things[thing].Of != api.ChangeNone {
		thing = w.House.Things[thing].Of
	}
	return thing
}

// has returns the changes that a thing has at the Minute: none if it is not there.
func (w town) has(thing int) bits {
	var b bits
	for change := range api.MaxChanges {
		if has, e := changes.Has(w.House, thing, change, w.Minute); e == api.OK && has {
			b |= 1 << change
		}
	}
	return b
}

// lacking returns what each thing lacks of the changes of its page.
func (w town) lacking() []bits {
	pages := map[int]bits{}
	for thing := range w.House.Things {
		pages[w.page(thing)] |= w.has(thing)
	}
	lacking := make([]bits, len(w.House.Things))
	for thing := range lacking {
		lacking[thing] = pages[w.page(thing)] &^ w.has(thing)
	}
	return lacking
}

// fresh reports whether a thing is there, and has all changes of its page.
func (w town) fresh(thing int) bool { return w.isThere(thing) && w.lacks[thing] == 0 }
