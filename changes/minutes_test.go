package changes_test

import (
	"maps"
	"slices"

	"flong/api"
	"flong/checks"
)

// What the chapter says, word by word: the minutes of a house are played one after the other.

// held is by which mark a thing has each change that it has; nil if the thing is not there.
type held map[int]int

// play tells what each thing has at each minute, behind all that is made and changed in it.
func play(h api.ChangeHouse, tell func(minute int, all []held)) {
	all := make([]held, len(h.Things))
	for minute := range 100 {
		// A thing comes behind that of which it is made, so that this has what is changed in it at the same minute.
		for i, x := range h.Things {
			if x.At == minute {
				all[i] = held{}
				if x.Of >= 0 {
					maps.Copy(all[i], all[x.Of])
				}
			}
			for k, m := range h.Marks {
				if m.Thing == i && m.At == minute && wantFirst(h, k) {
					all[i][m.Change] = k
				}
			}
		}
		tell(minute, all)
	}
}

// wantFirst reports whether no other mark of the same change in the same thing is earlier, or as early and has a lesser number.
func wantFirst(h api.ChangeHouse, k int) bool {
	m := h.Marks[k]
	for n, other := range h.Marks {
		if other.Change == m.Change && other.Thing == m.Thing && (other.At < m.At || other.At == m.At && n < k) {
			return false
		}
	}
	return true
}

// played returns what each thing has at each minute.
func played(h api.ChangeHouse) [][]held {
	var minutes [][]held
	play(h, func(_ int, all []held) {
		var copied []held
		for _, x := range all {
			copied = append(copied, maps.Clone(x))
		}
		minutes = append(minutes, copied)
	})
	return minutes
}

func (x held) has(change int) bool {
	_, ok := x[change]
	return ok
}

// wantSince returns the first minute at which a thing has a change, and by which mark; -1 if it never has.
func wantSince(minutes [][]held, i, change int) (int, int) {
	for minute, all := range minutes {
		if k, ok := all[i][change]; ok {
			return minute, k
		}
	}
	return -1, -1
}

func wantAll(minutes [][]held, change int) []int {
	var all []int
	for i, x := range minutes[99] {
		if x.has(change) {
			all = append(all, i)
		}
	}
	return all
}

func wantLacks(h api.ChangeHouse, minutes [][]held, change int) []int {
	var lacks []int
	for i, x := range minutes[99] {
		if h.Things[i].Prints == 1 && !x.has(change) {
			lacks = append(lacks, i)
		}
	}
	return lacks
}

func wantMixed(all []held, plates []int) []int {
	var mixed []int
	for change := range 3 {
		has := func(plate int) bool { return all[plate].has(change) }
		lacks := func(plate int) bool { return !has(plate) }
		if slices.ContainsFunc(plates, has) && slices.ContainsFunc(plates, lacks) {
			mixed = append(mixed, change)
		}
	}
	return mixed
}

// wantThere returns all plates that print and are there at a minute.
func wantThere(h api.ChangeHouse, all []held) []int {
	var plates []int
	for i, x := range all {
		if x != nil && h.Things[i].Prints == 1 {
			plates = append(plates, i)
		}
	}
	return plates
}

// wantTime returns the first and the last minute at which a change is mixed; -1 to -1 if there is none.
func wantTime(h api.ChangeHouse, minutes [][]held, change int) api.Span {
	var in []int
	for minute, all := range minutes {
		if slices.Contains(wantMixed(all, wantThere(h, all)), change) {
			in = append(in, minute)
		}
	}
	if len(in) == 0 {
		return span(-1, -1)
	}
	return span(in[0], in[len(in)-1])
}

// altered returns the house with the marks that stand for what is altered; they may be too many for a valid house.
func altered(h api.ChangeHouse, l []int, change, now int) api.ChangeHouse {
	return changed(h, func(h *api.ChangeHouse) {
		for _, i := range l {
			h.Marks = append(h.Marks, mark(change, i, max(now, h.Things[i].At)))
		}
	})
}

// costs returns what some things cost together.
func costs(h api.ChangeHouse, l []int) int {
	sum := 0
	for _, i := range l {
		sum += h.Things[i].Cost
	}
	return sum
}

// wantRemedies returns all remedies, the least one first.
func wantRemedies(h api.ChangeHouse, change, now int) [][]int {
	var remedies [][]int
	for _, l := range checks.Subsets(len(h.Things)) {
		lacks := false
		play(altered(h, l, change, now), func(minute int, all []held) {
			for i, x := range all {
				lacks = lacks || minute == 99 && h.Things[i].Prints == 1 && !x.has(change)
			}
		})
		if !lacks {
			remedies = append(remedies, l)
		}
	}
	slices.SortFunc(remedies, func(one, other []int) int {
		if d := costs(h, one) - costs(h, other); d != 0 {
			return d
		}
		if d := len(one) - len(other); d != 0 {
			return d
		}
		return slices.Compare(one, other)
	})
	return remedies
}

// wantMust returns whether a thing is in the cheapest of all remedies.
func wantMust(h api.ChangeHouse, remedies [][]int, i int) int {
	in, out := false, false
	for _, l := range remedies {
		if costs(h, l) == costs(h, remedies[0]) {
			is := slices.Contains(l, i)
			in, out = in || is, out || !is
		}
	}
	return checks.Known(in, out)
}
