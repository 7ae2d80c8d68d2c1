package fire_test

import (
	"math/rand"
	"slices"

	"flong/api"
)

func list(l ...int) []int { return l }

func lists(l ...[]int) [][]int { return l }

// thing is in the order of the chapter's examples: of, at, cost, prints.
func thing(of, at, cost, prints int) api.ChangeThing {
	return api.ChangeThing{Of: of, At: at, Cost: cost, Prints: prints}
}

func things(l ...api.ChangeThing) []api.ChangeThing { return l }

// mark is in the order of the chapter's examples: change, thing, at.
func mark(change, thing, at int) api.ChangeMark {
	return api.ChangeMark{Change: change, Thing: thing, At: at}
}

func marks(l ...api.ChangeMark) []api.ChangeMark { return l }

// townT is T of the chapter's examples.
func townT() api.FireTown {
	return api.FireTown{
		House: api.ChangeHouse{
			Things: things(thing(-1, 0, 5, 0), thing(0, 10, 3, 0), thing(1, 20, 2, 1), thing(-1, 5, 5, 0), thing(3, 30, 2, 1)),
			Marks:  marks(mark(0, 1, 15), mark(1, 3, 25)),
		},
		Places: list(0, 1, 1, 1, 1), Carry: list(9, 2, 4, 5, 3), Rooms: list(3, 4, 1), Minute: 40,
	}
}

// torn has a page of which each thing lacks a change, one that is one thing alone, with another one that is not there yet, and one that is not there.
func torn() api.FireTown {
	return api.FireTown{
		House: api.ChangeHouse{
			Things: things(thing(-1, 0, 1, 0), thing(0, 5, 1, 0), thing(0, 10, 1, 1), thing(1, 20, 1, 1), thing(-1, 0, 1, 0), thing(4, 31, 1, 1), thing(-1, 31, 1, 1)),
			Marks:  marks(mark(0, 1, 5), mark(1, 2, 30), mark(2, 4, 31), mark(2, 0, 99)),
		},
		Places: list(0, 0, 1, 2, 2, 1, 0), Carry: list(1, 1, 1, 1, 1, 0, 0), Rooms: list(2, 4, 2), Minute: 30,
	}
}

// bare is a town with nothing but a building.
func bare() api.FireTown { return api.FireTown{Rooms: list(0)} }

// twins has four pages, each of two things, all in the building 0, and a room for four in another one; all of it is fresh.
func twins() api.FireTown {
	return api.FireTown{
		House:  api.ChangeHouse{Things: things(thing(-1, 0, 0, 1), thing(0, 0, 0, 1), thing(-1, 0, 0, 1), thing(2, 0, 0, 1), thing(-1, 0, 0, 1), thing(4, 0, 0, 1), thing(-1, 0, 0, 1), thing(6, 0, 0, 1))},
		Places: make([]int, 8), Carry: list(3, 3, 4, 5, 7, 6, 0, 0), Rooms: list(8, 4),
	}
}

// largest is as large as a town can be: eight things of one page, of which only the last one is fresh.
func largest() api.FireTown {
	return api.FireTown{
		House: api.ChangeHouse{
			Things: append(things(thing(-1, 99, 99, 1)), slices.Repeat(things(thing(0, 99, 99, 1)), 7)...),
			Marks:  slices.Repeat(marks(mark(2, 7, 99)), 6),
		},
		Places: slices.Repeat(list(2), 8), Carry: slices.Repeat(list(99), 8), Rooms: list(9, 9, 9), Minute: 99,
	}
}

func withT(change func(t *api.FireTown)) api.FireTown { return changed(townT(), change) }

// changed returns a copy of a town with something changed; it shares no memory with this one.
func changed(t api.FireTown, change func(t *api.FireTown)) api.FireTown {
	t.House.Things, t.House.Marks = slices.Clone(t.House.Things), slices.Clone(t.House.Marks)
	t.Places, t.Carry, t.Rooms = slices.Clone(t.Places), slices.Clone(t.Carry), slices.Clone(t.Rooms)
	change(&t)
	return t
}

// at returns a town with other places.
func at(t api.FireTown, places []int) api.FireTown {
	return changed(t, func(t *api.FireTown) { t.Places = slices.Clone(places) })
}

func same(one, other api.FireTown) bool {
	return slices.Equal(one.House.Things, other.House.Things) && slices.Equal(one.House.Marks, other.House.Marks) && slices.Equal(one.Places, other.Places) &&
		slices.Equal(one.Carry, other.Carry) && slices.Equal(one.Rooms, other.Rooms) && one.Minute == other.Minute
}

// someTowns returns valid towns of all sorts with at most so many things, the same at each call.
func someTowns(many, most int) []api.FireTown {
	r := rand.New(rand.NewSource(10))
	var towns []api.FireTown
	for len(towns) < many {
		towns = append(towns, someTown(r, most))
	}
	return towns
}

// someTown has pages of few things or of many, and changes that are in most of them or in few; sometimes not all is there.
func someTown(r *rand.Rand, most int) api.FireTown {
	var t api.FireTown
	pages, gap := []int{1, 1, 2, 2, 3, 4}[r.Intn(6)], []int{1, 3, 12}[r.Intn(3)]
	last := 0
	for i := range most - min(r.Intn(most+1), r.Intn(most+1)) {
		x := thing(-1, r.Intn(gap), r.Intn(100), r.Intn(2))
		if i >= pages {
			x.Of = r.Intn(i)
			x.At = min(t.House.Things[x.Of].At+r.Intn(gap), api.MaxChangeMinute)
		}
		last = max(last, x.At)
		t.House.Things = append(t.House.Things, x)
	}
	t.Minute = []int{last, r.Intn(last + 1), last - min(last, 1), last + r.Intn(api.MaxChangeMinute-last+1)}[r.Intn(4)]
	for range r.Intn([]int{1, 4, api.MaxChangeMarks + 1}[r.Intn(3)]) * min(len(t.House.Things), 1) {
		t.House.Marks = append(t.House.Marks, someMark(r, t, []int{1, gap}[r.Intn(2)]))
	}
	house(r, &t)
	return t
}

// someMark returns a mark of any thing, less than so many minutes later than this was made.
func someMark(r *rand.Rand, t api.FireTown, gap int) api.ChangeMark {
	i := r.Intn(len(t.House.Things))
	return mark(r.Intn(api.MaxChanges), i, min(t.House.Things[i].At+r.Intn(gap), api.MaxChangeMinute))
}

// house puts the things into buildings that have room for them, sometimes no more than that.
func house(r *rand.Rand, t *api.FireTown) {
	t.Rooms = make([]int, []int{1, 2, 2, 3, 3, 3, 3, 3, 3}[r.Intn(9)])
	pence, first, from := []int{1, 3, 100}[r.Intn(3)], 1+r.Intn(len(t.Rooms)), r.Intn(len(t.Rooms))
	for _, x := range t.House.Things {
		place := (r.Intn(first) + from) % len(t.Rooms)
		t.Places, t.Carry = append(t.Places, place), append(t.Carry, r.Intn(pence))
		if x.At <= t.Minute {
			t.Rooms[place]++
		}
	}
	more := []int{1, 2, 3, 10}[r.Intn(4)]
	for building, room := range t.Rooms {
		t.Rooms[building] = min(room+r.Intn(more), api.MaxFireRoom)
	}
}
