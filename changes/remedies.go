package changes

import (
	"cmp"
	"iter"
	"slices"

	"flong/api"
)

// remedy is things that are altered, ascending, and what they cost together.
type remedy struct {
	things []int
	pence  int
}

// compare returns a number below 0 if a remedy is less than another one.
func (r remedy) compare(other remedy) int {
	return cmp.Or(
		cmp.Compare(r.pence, other.pence),
		cmp.Compare(len(r.things), len(other.things)),
		slices.Compare(r.things, other.things),
	)
}

// chosen returns the things of which the bits of a choice are 1.
func (h house) chosen(choice int) remedy {
	var r remedy
	for thing, x := range h.Things {
		if choice>>thing&1 == 1 {
			r.things = append(r.things, thing)
			r.pence += x.Cost
		}
	}
	return r
}

// altered returns the house with some things altered from a minute on.
func (h house) altered(things []int, change, now int) house {
	for _, thing := range things {
		mark := api.ChangeMark{Change: change, Thing: thing, At: max(now, h.Things[thing].At)}
		// The marks are cut at their end, so that nothing is written behind those of the given house.
		h.Marks = append(h.Marks[:len(h.Marks):len(h.Marks)], mark)
	}
	return h
}

// remedies yields all remedies of a change from a minute on. There is one at least: all things.
func (h house) remedies(change, now int) iter.Seq[remedy] {
	return func(yield func(remedy) bool) {
		for choice := range 1 << len(h.Things) {
			r := h.chosen(choice)
			if len(h.altered(r.things, change, now).lacking(change)) == 0 && !yield(r) {
				return
			}
		}
	}
}

// least returns the least remedy.
func (h house) least(change, now int) remedy {
	return slices.MinFunc(slices.Collect(h.remedies(change, now)), remedy.compare)
}

// must returns whether a thing is in the remedies that cost the fewest pence.
func (h house) must(change, now, thing int) int {
	fewest := h.least(change, now).pence
	some, all := false, true
	for r := range h.remedies(change, now) {
		if r.pence > fewest {
			continue
		}
		in := slices.Contains(r.things, thing)
		some = some || in
		all = all && in
	}
	switch {
	case all:
		return api.Surely
	case some:
		return api.Perhaps
	}
	return api.Never
}
