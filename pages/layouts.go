package pages

import (
	"iter"

	"flong/api"
)

// strips is how many strips there are of each kind; of kinds that a frame has not got there are none.
type strips [api.MaxPageKinds]int

// layout is the strips of each column; columns that a frame has not got have none.
type layout [api.MaxPageColumns]strips

// strips returns all strips of the frame.
func (f frame) strips() strips {
	var all strips
	for kind, s := range f.Strips {
		all[kind] = s.Many
	}
	return all
}

// points returns how many points a set of strips has together.
func (f frame) points(set []int) int {
	sum := 0
	for kind, n := range set {
		sum += n * f.Strips[kind].Thick
	}
	return sum
}

// sets yields all sets of the strips that are left whose points are within a room, lesser ones first.
func (f frame) sets(left strips, room api.Span) iter.Seq[strips] {
	return func(yield func(strips) bool) {
		var set strips
		for more := true; more; more = set.next(left) {
			if points := f.points(set[:len(f.Strips)]); between(points, room.Low, room.High) && !yield(set) {
				return
			}
		}
	}
}

// next makes the next greater set of the strips that are left; it reports whether there is one.
func (s *strips) next(left strips) bool {
	for kind := len(s) - 1; kind >= 0; kind-- {
		if s[kind] < left[kind] {
			s[kind]++
			return true
		}
		s[kind] = 0
	}
	return false
}

func (s strips) without(set strips) strips {
	for kind, n := range set {
		s[kind] -= n
	}
	return s
}

// layouts yields all layouts that lock the page without some pieces, lesser ones first.
func (f frame) layouts(out choice) iter.Seq[layout] {
	return func(yield func(layout) bool) {
		f.lay(layout{}, 0, f.rooms(out), f.strips(), yield)
	}
}

// lay yields all layouts that begin with the sets of some columns, with the strips that are left and the rooms of all columns; it reports whether more are asked for.
func (f frame) lay(begun layout, columns int, rooms []api.Span, left strips, yield func(layout) bool) bool {
	if columns == len(rooms) {
		return yield(begun)
	}
	for set := range f.sets(left, rooms[columns]) {
		begun[columns] = set
		if !f.lay(begun, columns+1, rooms, left.without(set), yield) {
			return false
		}
	}
	return true
}

// count returns how many strips a layout has.
func (l layout) count() int {
	sum := 0
	for _, set := range l {
		for _, n := range set {
			sum += n
		}
	}
	return sum
}

// locks reports whether some layout locks the page without some pieces.
func (f frame) locks(out choice) bool {
	for range f.layouts(out) {
		return true
	}
	return false
}

// fewest returns the layout with the fewest strips that locks the page, the least one of several, and how many strips it has.
func (f frame) fewest() (layout, int, api.Errno) {
	if !f.valid() {
		return layout{}, 0, api.ErrPage
	}
	var best layout
	least, found := 0, false
	for l := range f.layouts(nothing) {
		if n := l.count(); !found || n < least {
			best, least, found = l, n, true
		}
	}
	if !found {
		return layout{}, 0, api.ErrNone
	}
	return best, least, api.OK
}
