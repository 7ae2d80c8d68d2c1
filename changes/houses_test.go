package changes_test

import (
	"math/rand"
	"slices"

	"flong/api"
)

func list(l ...int) []int { return l }

func lists(l ...[]int) [][]int { return l }

func span(low, high int) api.Span { return api.Span{Low: low, High: high} }

// thing is in the order of the chapter's examples: of, at, cost, prints.
func thing(of, at, cost, prints int) api.ChangeThing {
	return api.ChangeThing{Of: of, At: at, Cost: cost, Prints: prints}
}

func things(l ...api.ChangeThing) []api.ChangeThing { return l }

// mark is in the order of the chapter's examples: change, thing, at.
func mark(change, thing, at int) api.ChangeMark {
	return api.ChangeMark{Change: change, Thing: thing, At: at}
}

func house(l []api.ChangeThing, marks ...api.ChangeMark) api.ChangeHouse {
	return api.ChangeHouse{Things: l, Marks: marks}
}

// houseH is H of the chapter's examples.
func houseH() api.ChangeHouse {
	return house(
		things(thing(-1, 0, 20, 0), thing(0, 5, 9, 0), thing(1, 10, 3, 1), thing(1, 20, 3, 1), thing(0, 25, 8, 0), thing(4, 30, 2, 1)),
		mark(0, 1, 12), mark(1, 0, 22),
	)
}

// houseG is G of the chapter's examples.
func houseG() api.ChangeHouse {
	return withH(func(h *api.ChangeHouse) { h.Things[2].Cost, h.Things[3].Cost = 5, 5 })
}

// houseL is the largest house: eight plates that are made of none, and six marks at the end.
func houseL() api.ChangeHouse {
	return house(slices.Repeat(things(thing(-1, 99, 99, 1)), 8), slices.Repeat([]api.ChangeMark{mark(2, 7, 99)}, 6)...)
}

// chain is a house of four things, each made of the one before, the last one a plate that prints.
func chain(marks ...api.ChangeMark) api.ChangeHouse {
	return house(things(thing(-1, 0, 5, 0), thing(0, 5, 5, 0), thing(1, 10, 5, 0), thing(2, 20, 5, 1)), marks...)
}

func withH(change func(h *api.ChangeHouse)) api.ChangeHouse { return changed(houseH(), change) }

// changed returns a copy of a house with something changed; it shares no memory with this one.
func changed(h api.ChangeHouse, change func(h *api.ChangeHouse)) api.ChangeHouse {
	h = house(slices.Clone(h.Things), slices.Clone(h.Marks)...)
	change(&h)
	return h
}

// with returns a house with one more mark.
func with(h api.ChangeHouse, m api.ChangeMark) api.ChangeHouse {
	return changed(h, func(h *api.ChangeHouse) { h.Marks = append(h.Marks, m) })
}

// someHouses returns valid houses of all sorts with at most so many things, the same at each call.
func someHouses(many, most int) []api.ChangeHouse {
	r := rand.New(rand.NewSource(7))
	var houses []api.ChangeHouse
	for len(houses) < many {
		houses = append(houses, someHouse(r, most))
	}
	return houses
}

// someHouse returns a house with much at the same minutes, or little, up to the end or not.
func someHouse(r *rand.Rand, most int) api.ChangeHouse {
	var h api.ChangeHouse
	gap, cost := []int{1, 3, 9, 30}[r.Intn(4)], []int{1, 3, 10, 100}[r.Intn(4)]
	last := 0
	for i := range r.Intn(most + 1) {
		x := thing(r.Intn(i+1)-1, 0, r.Intn(cost), min(r.Intn(3), 1))
		if x.Of >= 0 {
			x.At = h.Things[x.Of].At
		}
		x.At = min(x.At+r.Intn(gap), 99)
		last = max(last, x.At)
		h.Things = append(h.Things, x)
	}
	for range r.Intn(api.MaxChangeMarks+1) * min(len(h.Things), 1) {
		m := someMark(r, h, gap)
		last = max(last, m.At)
		h.Marks = append(h.Marks, m)
	}
	if r.Intn(3) == 0 {
		later(h, 99-last)
	}
	return h
}

// someMark returns a mark of any thing, less than so many minutes later than this was made.
func someMark(r *rand.Rand, h api.ChangeHouse, gap int) api.ChangeMark {
	i := r.Intn(len(h.Things))
	return mark(r.Intn(api.MaxChanges), i, min(h.Things[i].At+r.Intn(gap), 99))
}

// later makes all of a house later by so many minutes.
func later(h api.ChangeHouse, by int) {
	for i := range h.Things {
		h.Things[i].At += by
	}
	for i := range h.Marks {
		h.Marks[i].At += by
	}
}
