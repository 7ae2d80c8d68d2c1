package changes

import (
	"slices"

	"flong/api"
)

// house is a given house at work.
type house struct {
	api.ChangeHouse
}

// The numbers of Prints.
const (
	printsNot = 0
	prints    = 1
)

// end is the last minute; at it all things are there.
const end = api.MaxChangeMinute

// named returns the error of a call that names something, which may be right or wrong.
func (h house) named(right bool) api.Errno {
	if !h.valid() {
		return api.ErrChange
	}
	if !right {
		return api.ErrArg
	}
	return api.OK
}

func (h house) valid() bool {
	if len(h.Things) > api.MaxChangeThings || len(h.Marks) > api.MaxChangeMarks {
		return false
	}
	for thing := range h.Things {
		if !h.validThing(thing) {
			return false
		}
	}
	return !slices.ContainsFunc(h.Marks, h.invalidMark)
}

func (h house) validThing(thing int) bool {
	x := h.Things[thing]
	return between(x.Of, api.ChangeNone, thing-1) && between(x.At, h.earliest(x), end) &&
		between(x.Cost, 0, api.MaxChangeCost) && between(x.Prints, printsNot, prints)
}

// earliest returns the first minute at which a thing can have been made.
func (h house) earliest(x api.ChangeThing) int {
	if x.Of == api.ChangeNone {
		return 0
	}
	return h.Things[x.Of].At
}

func (h house) invalidMark(m api.ChangeMark) bool {
	return !isChange(m.Change) || !h.hasThing(m.Thing) || !between(m.At, h.Things[m.Thing].At, end)
}

func between(n, least, most int) bool {
	return least <= n && n <= most
}

func isChange(change int) bool { return between(change, 0, api.MaxChanges-1) }
func isMinute(minute int) bool { return between(minute, 0, end) }

func (h house) hasThing(thing int) bool { return between(thing, 0, len(h.Things)-1) }

// hasPlates reports whether numbers are some plates that print and are there at a minute, ascending.
func (h house) hasPlates(plates []int, minute int) bool {
	least := 0
	for _, plate := range plates {
		if plate < least || !h.hasThing(plate) || !h.printsAt(plate, minute) {
			return false
		}
		least = plate + 1
	}
	return true
}

// printsAt reports whether a thing is a plate that prints and is there at a minute.
func (h house) printsAt(thing, minute int) bool {
	x := h.Things[thing]
	return x.Prints == prints && x.At <= minute
}

// plates returns all plates that print and are there at a minute.
func (h house) plates(minute int) []int {
	var plates []int
	for thing := range h.Things {
		if h.printsAt(thing, minute) {
			plates = append(plates, thing)
		}
	}
	return plates
}
