package changes

import (
	"slices"

	"flong/api"
)

// never is a minute behind the end: what a thing has from then on it never has.
const never = end + 1

// has reports whether a thing has a change at a minute. What it once has it keeps.
func (h house) has(thing, change, minute int) bool {
	return h.since(thing, change) <= minute
}

// since returns the first minute at which a thing has a change.
func (h house) since(thing, change int) int {
	if h.madeWith(thing, change) {
		return h.Things[thing].At
	}
	if mark, ok := h.first(thing, change); ok {
		return h.Marks[mark].At
	}
	return never
}

// madeWith reports whether a thing was made of one that had a change then.
func (h house) madeWith(thing, change int) bool {
	x := h.Things[thing]
	return x.Of != api.ChangeNone && h.has(x.Of, change, x.At)
}

// first returns the earliest mark of a change in a thing itself, the first one of several, and whether there is one.
func (h house) first(thing, change int) (int, bool) {
	first, found := 0, false
	for i, m := range h.Marks {
		if m.Thing == thing && m.Change == change && (!found || m.At < h.Marks[first].At) {
			first, found = i, true
		}
	}
	return first, found
}

// source returns the mark by which a thing has a change at a minute at which it has it.
func (h house) source(thing, change, minute int) int {
	if mark, ok := h.first(thing, change); ok && h.Marks[mark].At <= minute {
		return mark
	}
	// What is changed in the other thing later than this one was made is not in this one.
	x := h.Things[thing]
	return h.source(x.Of, change, x.At)
}

// having returns all things that have a change at the end.
func (h house) having(change int) []int {
	var having []int
	for thing := range h.Things {
		if h.has(thing, change, end) {
			having = append(having, thing)
		}
	}
	return having
}

// lacking returns all plates that print and lack a change at the end.
func (h house) lacking(change int) []int {
	return slices.DeleteFunc(h.plates(end), func(plate int) bool { return h.has(plate, change, end) })
}

// mixes reports whether some of the plates have a change at a minute, and some have not.
func (h house) mixes(plates []int, change, minute int) bool {
	having := 0
	for _, plate := range plates {
		if h.has(plate, change, minute) {
			having++
		}
	}
	return between(having, 1, len(plates)-1)
}

// mixed returns all changes that the plates mix at a minute.
func (h house) mixed(plates []int, minute int) []int {
	var mixed []int
	for change := range api.MaxChanges {
		if h.mixes(plates, change, minute) {
			mixed = append(mixed, change)
		}
	}
	return mixed
}

// time returns the first and the last minute at which plates that print mix a change, and whether they ever do.
func (h house) time(change int) (api.Span, bool) {
	s, found := api.Span{}, false
	for minute := range end + 1 {
		if !h.mixes(h.plates(minute), change, minute) {
			continue
		}
		if !found {
			s.Low, found = minute, true
		}
		s.High = minute
	}
	return s, found
}
