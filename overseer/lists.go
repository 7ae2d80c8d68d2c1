package overseer

import (
	"slices"

	"flong/api"
)

// Towns share their lists with those that they come from, so a list that changes is always a new one.

func has[E any](l []E, number int) bool { return number >= 0 && number < len(l) }

// add puts one element more behind all others of a list.
func add[E any](l *[]E, more E) bool {
	*l = slices.Concat(*l, []E{more})
	return true
}

// alter changes one element of a list, if there is one of this number.
func alter[E any](l *[]E, number int, change func(element *E)) bool {
	if !has(*l, number) {
		return false
	}
	*l = slices.Clone(*l)
	change(&(*l)[number])
	return true
}

// put puts one element in the place of another one, if there is one of this number.
func put[E any](l *[]E, number int, other E) bool {
	return alter(l, number, func(element *E) { *element = other })
}

// copied returns a town that shares no list with a given one.
func copied(t api.OverTown) api.OverTown {
	h, s := &t.House, &t.Shop
	h.Machines, h.Bundles, h.Trains = slices.Clone(h.Machines), slices.Clone(h.Bundles), slices.Clone(h.Trains)
	s.Moulds, s.Worlds, s.Wants = slices.Clone(s.Moulds), slices.Clone(s.Worlds), slices.Clone(s.Wants)
	for i, lasts := range s.Worlds {
		s.Worlds[i] = slices.Clone(lasts)
	}
	return t
}
