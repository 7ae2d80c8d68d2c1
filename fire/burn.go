package fire

import (
	"cmp"
	"iter"

	"flong/api"
)

// left yields all things that are left by a fire in a building, ascending.
func (w town) left(building int) iter.Seq[int] {
	return func(yield func(int) bool) {
		for thing, place := range w.Places {
			if place != building && w.isThere(thing) && !yield(thing) {
				return
			}
		}
	}
}

// again returns the changes that a thing of a page lacks that is left by a fire in a building and lacks the fewest, and whether one is left.
func (w town) again(building, page int) (bits, bool) {
	var again bits
	found := false
	for thing := range w.left(building) {
		if w.page(thing) != page {
			continue
		}
		if lacks := w.lacks[thing]; !found || lacks.compare(again) < 0 {
			again, found = lacks, true
		}
	}
	return again, found
}

// pages returns all pages that are there, ascending.
func (w town) pages() []int {
	var pages []int
	for thing, x := range w.House.Things {
		if x.Of == api.ChangeNone && w.isThere(thing) {
			pages = append(pages, thing)
		}
	}
	return pages
}

// lost returns all pages that are lost by a fire in a building.
func (w town) lost(building int) []int {
	var lost []int
	for _, page := range w.pages() {
		if _, left := w.again(building, page); !left {
			lost = append(lost, page)
		}
	}
	return lost
}

// stale returns all pages that are stale by a fire in a building.
func (w town) stale(building int) []int {
	var stale []int
	for _, page := range w.pages() {
		if again, left := w.again(building, page); left && again != 0 {
			stale = append(stale, page)
		}
	}
	return stale
}

// safe reports whether by no fire a page is lost or stale.
func (w town) safe() bool {
	for building := range w.Rooms {
		if len(w.lost(building)) > 0 || len(w.stale(building)) > 0 {
			return false
		}
	}
	return true
}

// worst returns the first building by the fire in which the most pages are lost, and of those the most stale.
func (w town) worst() int {
	worst := 0
	for building := range w.Rooms {
		if w.compareFires(building, worst) > 0 {
			worst = building
		}
	}
	return worst
}

// compareFires returns a number above 0 if a fire in one building is worse than one in another.
func (w town) compareFires(one, other int) int {
	return cmp.Or(
		cmp.Compare(len(w.lost(one)), len(w.lost(other))),
		cmp.Compare(len(w.stale(one)), len(w.stale(other))),
	)
}

// bears returns in how many buildings there are fresh things of a page, less 1.
func (w town) bears(page int) int {
	in := map[int]bool{}
	for thing, place := range w.Places {
		if w.page(thing) == page && w.fresh(thing) {
			in[place] = true
		}
	}
	return len(in) - 1
}
