package fire_test

import (
	"math"
	"slices"
	"testing"

	"flong/api"
	"flong/checks"
	"flong/fire"
)

const most, least = math.MaxInt, math.MinInt

// ofThing returns the answers of the calls that have a thing.
func ofThing(t api.FireTown, i int) []checks.Answer {
	n, e1 := fire.Page(t, i)
	ok, e2 := fire.Fresh(t, i)
	return []checks.Answer{checks.Said("Page", e1, n == 0), checks.Said("Fresh", e2, !ok)}
}

// ofFire returns the answers of the calls that have a building alone.
func ofFire(t api.FireTown, building int) []checks.Answer {
	l, e1 := fire.Left(t, building)
	m, e2 := fire.Lost(t, building)
	n, e3 := fire.Stale(t, building)
	return []checks.Answer{checks.Said("Left", e1, len(l) == 0), checks.Said("Lost", e2, len(m) == 0), checks.Said("Stale", e3, len(n) == 0)}
}

func again(t api.FireTown, building, page int) checks.Answer {
	l, e := fire.Again(t, building, page)
	return checks.Said("Again", e, len(l) == 0)
}

func bears(t api.FireTown, page int) checks.Answer {
	n, e := fire.Bears(t, page)
	return checks.Said("Bears", e, n == 0)
}

// ofTown returns the answers of the calls that have a town alone, and are not ErrNone.
func ofTown(t api.FireTown) []checks.Answer {
	ok, e1 := fire.Safe(t)
	n, e2 := fire.Worst(t)
	return []checks.Answer{checks.Said("Check", fire.Check(t), true), checks.Said("Safe", e1, !ok), checks.Said("Worst", e2, n == 0)}
}

// carrying returns the answers of the calls that are ErrNone without a remedy.
func carrying(t api.FireTown) []checks.Answer {
	n, e1 := fire.Cheap(t)
	l, e2 := fire.Carry(t)
	return []checks.Answer{checks.Said("Cheap", e1, n == 0), checks.Said("Carry", e2, len(l) == 0)}
}

// P10.1
func TestCheckValid(t *testing.T) {
	for i, x := range []api.FireTown{
		townT(), torn(), bare(), twins(), largest(),
		// The buildings can be just full.
		withT(func(x *api.FireTown) { x.Rooms = list(1, 4) }), withT(func(x *api.FireTown) { x.Rooms = list(1, 4, 0) }),
		// What is not there takes no room.
		withT(func(x *api.FireTown) { x.Rooms, x.Minute = list(1, 3), 29 }), withT(func(x *api.FireTown) { x.Rooms, x.Minute = list(1, 0), 4 }),
		withT(func(x *api.FireTown) { x.Minute = 0 }), withT(func(x *api.FireTown) { x.Minute = 99 }),
		withT(func(x *api.FireTown) { x.Carry = list(0, 99, 0, 99, 0) }), withT(func(x *api.FireTown) { x.Rooms = list(9, 9, 9) }), {Rooms: list(9, 0, 9), Minute: 99},
	} {
		if e := fire.Check(x); e != api.OK {
			t.Errorf("%d: Check(%v) = %d", i, x, e)
		}
	}
}

// invalid has towns that are not valid, each by one number or one length.
func invalid() []api.FireTown {
	var towns []api.FireTown
	add := func(change func(t *api.FireTown, n int), numbers ...int) {
		for _, n := range numbers {
			towns = append(towns, withT(func(t *api.FireTown) { change(t, n) }))
		}
	}
	for i := range townT().Places {
		add(func(t *api.FireTown, n int) { t.Places[i] = n }, -1, 3, 4, most, least)
		add(func(t *api.FireTown, n int) { t.Carry[i] = n }, -1, 100, 101, most, least)
		add(func(t *api.FireTown, n int) { t.House.Things[i].Of = n }, -2, i, 8, most, least)
		add(func(t *api.FireTown, n int) { t.House.Things[i].At = n }, -1, 100, most, least)
		add(func(t *api.FireTown, n int) { t.House.Things[i].Cost = n }, -1, 100)
		add(func(t *api.FireTown, n int) { t.House.Things[i].Prints = n }, -1, 2)
	}
	for building := range townT().Rooms {
		add(func(t *api.FireTown, n int) { t.Rooms[building] = n }, -1, 10, 11, most, least)
	}
	add(func(t *api.FireTown, n int) { t.House.Marks[0].Change = n }, -1, 3)
	add(func(t *api.FireTown, n int) { t.House.Marks[1].Thing = n }, -1, 5)
	add(func(t *api.FireTown, n int) { t.House.Marks[1].At = n }, 4, 100)
	add(func(t *api.FireTown, n int) { t.House.Marks = slices.Repeat(t.House.Marks[:1], n) }, 7, 1000)
	add(func(t *api.FireTown, n int) { t.Minute = n }, -1, 100, 101, most, least)
	add(func(t *api.FireTown, n int) { t.Rooms = slices.Repeat(list(9), n) }, 0, 1, 4, 5, 1000)
	add(func(t *api.FireTown, n int) { t.Places = slices.Repeat(list(0), n) }, 0, 1, 4, 6, 1000)
	add(func(t *api.FireTown, n int) { t.Carry = slices.Repeat(list(0), n) }, 0, 1, 4, 6, 1000)
	add(func(t *api.FireTown, n int) { t.House.Things = t.House.Things[:n] }, 4)
	add(func(t *api.FireTown, n int) {
		t.House.Things, t.Places, t.Carry = slices.Repeat(t.House.Things[:1], n), make([]int, n), make([]int, n)
		t.Rooms, t.Minute = list(9), 0
	}, 9, 10, 1000)
	// More than there is room for, in one building or another.
	add(func(t *api.FireTown, n int) { t.Rooms[1] = n }, 0, 1, 3)
	add(func(t *api.FireTown, n int) { t.Rooms[n] = 0 }, 0, 1)
	add(func(t *api.FireTown, n int) { t.Places = list(2, 1, 1, 1, n) }, 2)
	// The things that are not there must be in a building, too.
	add(func(t *api.FireTown, n int) { t.Minute, t.Places[4] = 20, n }, -1, 3)
	return append(towns, api.FireTown{}, api.FireTown{Places: list(0), Rooms: list(1)}, api.FireTown{Carry: list(0), Rooms: list(1)})
}

// someNumbers has numbers of things and buildings that T has, and of those that no town has.
func someNumbers() []int { return list(0, 1, 2, 3, 4, -1, 5, 8, 999, most, least) }

// P1 and P10.1, and ErrFire ahead of all other errors
func TestCheckInvalid(t *testing.T) {
	for _, x := range invalid() {
		checks.Expect(t, x, api.ErrFire, append(ofTown(x), carrying(x)...)...)
		for _, n := range someNumbers() {
			checks.Expect(t, x, api.ErrFire, slices.Concat(ofThing(x, n), ofFire(x, n))...)
			checks.Expect(t, x, api.ErrFire, bears(x, n))
			for _, k := range someNumbers() {
				checks.Expect(t, x, api.ErrFire, again(x, n, k))
			}
		}
	}
}

// P1, and ErrArg, also ahead of ErrNone
func TestNotOfTheTown(t *testing.T) {
	x := townT()
	for _, n := range list(-1, 5, 6, 8, 999, most, least) {
		checks.Expect(t, n, api.ErrArg, ofThing(x, n)...)
	}
	for _, n := range list(-1, 3, 4, 999, most, least) {
		checks.Expect(t, n, api.ErrArg, append(ofFire(x, n), again(x, n, 0), again(x, n, 3), again(x, n, -1))...)
	}
	// A thing that is made of another one is no page, and a thing that is not there is a page all the same.
	for _, n := range list(1, 2, 4, -1, 5, 6, 999, most, least) {
		checks.Expect(t, n, api.ErrArg, bears(x, n), again(x, 0, n), again(x, 1, n), again(x, -1, n))
	}
	checks.Expect(t, "not there", api.ErrArg, bears(torn(), 5), again(torn(), 0, 5), again(torn(), 3, 6))
	checks.Expect(t, "no things", api.ErrArg, append(ofThing(bare(), 0), bears(bare(), 0), again(bare(), 0, 0))...)
	checks.Expect(t, "one building", api.ErrArg, append(ofFire(bare(), 1), ofFire(bare(), -1)...)...)
	checks.Expect(t, "two buildings", api.ErrArg, append(ofFire(twins(), 2), again(twins(), 2, 0))...)
}

// P10.2 and P10.3
func TestPageAndFresh(t *testing.T) {
	for i, x := range []struct {
		t     api.FireTown
		pages []int
		fresh []int // the things that are
	}{
		{townT(), list(0, 0, 0, 3, 3), list(1, 2, 3, 4)},
		// A page is known of what is not there; this is not fresh.
		{withT(func(x *api.FireTown) { x.Minute = 19 }), list(0, 0, 0, 3, 3), list(1, 3)}, {withT(func(x *api.FireTown) { x.Minute = 20 }), list(0, 0, 0, 3, 3), list(1, 2, 3)},
		{withT(func(x *api.FireTown) { x.Minute = 4 }), list(0, 0, 0, 3, 3), list(0)},
		// What comes later than the Minute is not a change of the page yet.
		{withT(func(x *api.FireTown) { x.Minute = 14 }), list(0, 0, 0, 3, 3), list(0, 1, 3)}, {withT(func(x *api.FireTown) { x.Minute = 15 }), list(0, 0, 0, 3, 3), list(1, 3)},
		{withT(func(x *api.FireTown) { x.House.Marks[0].At = 41 }), list(0, 0, 0, 3, 3), list(0, 1, 2, 3, 4)}, {withT(func(x *api.FireTown) { x.House.Marks[0].At = 40 }), list(0, 0, 0, 3, 3), list(1, 3, 4)},
		// A change of one page is none of another one.
		{withT(func(x *api.FireTown) { x.House.Marks = x.House.Marks[1:] }), list(0, 0, 0, 3, 3), list(0, 1, 2, 3, 4)},
		{withT(func(x *api.FireTown) { x.House.Marks[0] = mark(0, 0, 40) }), list(0, 0, 0, 3, 3), list(0, 3, 4)},
		{torn(), list(0, 0, 0, 0, 4, 4, 6), list(4)}, {bare(), nil, nil}, {twins(), list(0, 0, 2, 2, 4, 4, 6, 6), list(0, 1, 2, 3, 4, 5, 6, 7)}, {largest(), make([]int, 8), list(7)},
	} {
		for n, want := range x.pages {
			if page, e := fire.Page(x.t, n); page != want || e != api.OK {
				t.Errorf("%d: Page(%d) = %d, %d, want %d", i, n, page, e, want)
			}
			if is, e := fire.Fresh(x.t, n); is != slices.Contains(x.fresh, n) || e != api.OK {
				t.Errorf("%d: Fresh(%d) = %v, %d", i, n, is, e)
			}
		}
	}
}

// P10.4 to P10.6 and P10.10
func TestFires(t *testing.T) {
	none := lists(nil, nil, nil)
	for i, x := range []struct {
		t                 api.FireTown
		left, lost, stale [][]int // by the fire in each building
		worst             int
	}{
		{townT(), lists(list(1, 2, 3, 4), list(0), list(0, 1, 2, 3, 4)), lists(nil, list(3), nil), lists(nil, list(0), nil), 1},
		{torn(), lists(list(2, 3, 4), list(0, 1, 3, 4), list(0, 1, 2)), lists(nil, nil, list(4)), lists(list(0), list(0), list(0)), 2},
		{bare(), lists(nil), lists(nil), lists(nil), 0}, {twins(), lists(nil, list(0, 1, 2, 3, 4, 5, 6, 7)), lists(list(0, 2, 4, 6), nil), lists(nil, nil), 0},
		{largest(), lists(list(0, 1, 2, 3, 4, 5, 6, 7), list(0, 1, 2, 3, 4, 5, 6, 7), nil), lists(nil, nil, list(0)), none, 2},
		// A page can be left without itself, and only what is there is left.
		{at(townT(), list(1, 0, 1, 0, 1)), lists(list(0, 2, 4), list(1, 3), list(0, 1, 2, 3, 4)), none, none, 0},
		{withT(func(x *api.FireTown) { x.Minute = 10 }), lists(list(1, 3), list(0), list(0, 1, 3)), lists(nil, list(3), nil), none, 1},
		// The one thing that is fresh burns.
		{at(largest(), list(0, 0, 0, 0, 0, 0, 0, 1)), lists(list(7), list(0, 1, 2, 3, 4, 5, 6), list(0, 1, 2, 3, 4, 5, 6, 7)), none, lists(nil, list(0), nil), 1},
		// As many are lost: more stale ones are worse; as many of them, too: the first building.
		{at(twins(), list(1, 0, 1, 0, 1, 0, 1, 0)), lists(list(0, 2, 4, 6), list(1, 3, 5, 7)), lists(nil, nil), lists(nil, nil), 0},
		{changed(at(twins(), list(0, 0, 1, 1, 0, 1, 0, 1)), func(x *api.FireTown) { x.House.Marks = marks(mark(0, 5, 0)) }), lists(list(2, 3, 5, 7), list(0, 1, 4, 6)), lists(list(0), list(2)), lists(nil, list(4)), 1},
		{changed(at(twins(), list(0, 0, 1, 1, 0, 1, 0, 1)), func(x *api.FireTown) { x.House.Marks = marks(mark(0, 4, 0), mark(2, 7, 0)) }), lists(list(2, 3, 5, 7), list(0, 1, 4, 6)), lists(list(0), list(2)), lists(nil, list(6)), 1},
		// One that is lost is worse than two that are stale.
		{changed(at(twins(), list(0, 1, 0, 1, 0, 0, 1, 0)), func(x *api.FireTown) { x.House.Marks = marks(mark(1, 1, 0), mark(1, 3, 0)) }), lists(list(1, 3, 6), list(0, 2, 4, 5, 7)), lists(list(4), nil), lists(nil, list(0, 2)), 0},
	} {
		for building := range x.t.Rooms {
			l, e1 := fire.Left(x.t, building)
			m, e2 := fire.Lost(x.t, building)
			n, e3 := fire.Stale(x.t, building)
			if !slices.Equal(l, x.left[building]) || !slices.Equal(m, x.lost[building]) || !slices.Equal(n, x.stale[building]) || e1+e2+e3 != api.OK {
				t.Errorf("%d: Left(%d) = %v, %d; Lost = %v, %d; Stale = %v, %d", i, building, l, e1, m, e2, n, e3)
			}
		}
		if n, e := fire.Worst(x.t); n != x.worst || e != api.OK {
			t.Errorf("%d: Worst = %d, %d, want %d", i, n, e, x.worst)
		}
	}
}

// P10.7
func TestAgain(t *testing.T) {
	// Things that lack 1 and 2, 0 and 2, 0 and 1, or 0 alone, and one that is left of none.
	many := changed(largest(), func(x *api.FireTown) {
		x.House.Things = things(thing(-1, 0, 0, 0), thing(0, 1, 0, 0), thing(0, 1, 0, 0), thing(0, 1, 0, 0), thing(0, 1, 0, 0))
		x.House.Marks = marks(mark(0, 1, 2), mark(1, 2, 2), mark(2, 3, 2), mark(1, 4, 2), mark(2, 4, 2))
		x.Carry = x.Carry[:5]
	})
	for i, x := range []struct {
		t              api.FireTown
		places         []int
		building, page int
		want           []int
		none           bool
	}{
		{townT(), nil, 0, 0, nil, false}, {townT(), nil, 1, 0, list(0), false}, {townT(), nil, 1, 3, nil, true}, {townT(), nil, 2, 0, nil, false}, {townT(), nil, 0, 3, nil, false},
		// Of as many the least: 0 of the thing 2, 1 of the things 1 and 3.
		{torn(), nil, 0, 0, list(0), false}, {torn(), nil, 1, 0, list(1), false}, {torn(), nil, 2, 0, list(0), false}, {torn(), list(0, 1, 1, 1, 1, 1, 0), 1, 0, list(0, 1), false},
		{torn(), nil, 0, 4, nil, false}, {torn(), nil, 2, 4, nil, true}, {torn(), nil, 0, 6, nil, true}, {torn(), nil, 1, 6, nil, true},
		{many, list(0, 0, 0, 0, 1), 2, 0, list(0), false}, {many, list(0, 0, 0, 0, 1), 0, 0, list(0), false}, {many, list(0, 0, 0, 0, 1), 1, 0, list(0, 1), false},
		{many, list(0, 0, 0, 1, 1), 1, 0, list(0, 2), false}, {many, list(0, 0, 1, 1, 1), 1, 0, list(1, 2), false}, {many, list(0, 1, 1, 1, 1), 1, 0, list(0, 1, 2), false},
		{many, list(0, 0, 0, 0, 0), 0, 0, nil, true}, {twins(), nil, 0, 2, nil, true}, {twins(), nil, 1, 2, nil, false}, {largest(), nil, 2, 0, nil, true}, {largest(), nil, 1, 0, nil, false},
		{largest(), list(0, 0, 0, 0, 0, 0, 0, 2), 2, 0, list(2), false},
	} {
		if x.places != nil {
			x.t = at(x.t, x.places)
		}
		l, e := fire.Again(x.t, x.building, x.page)
		if !x.none && (!slices.Equal(l, x.want) || e != api.OK) || x.none && (len(l) > 0 || e != api.ErrNone) {
			t.Errorf("%d: Again(%d, %d) = %v, %d, want %v, or none: %v", i, x.building, x.page, l, e, x.want, x.none)
		}
	}
}

// P10.8 and P10.9
func TestSafeAndBears(t *testing.T) {
	const none = -9
	for i, x := range []struct {
		t     api.FireTown
		safe  bool
		pages []int
		bears []int
	}{
		{townT(), false, list(0, 3), list(0, 0)}, {at(townT(), list(0, 0, 1, 1, 0)), true, list(0, 3), list(1, 1)}, {at(townT(), list(0, 0, 1, 1, 1)), false, list(0, 3), list(1, 0)},
		// What is not fresh bears nothing.
		{at(townT(), list(0, 1, 1, 1, 2)), false, list(0, 3), list(0, 1)}, {torn(), false, list(0, 4, 6), list(-1, 0, none)}, {bare(), true, nil, nil}, {twins(), false, list(0, 2, 4, 6), list(0, 0, 0, 0)},
		{at(twins(), list(0, 1, 0, 1, 0, 1, 0, 1)), true, list(0, 2, 4, 6), list(1, 1, 1, 1)}, {largest(), false, list(0), list(0)}, {at(largest(), list(0, 0, 1, 1, 2, 2, 0, 1)), false, list(0), list(0)},
		{changed(largest(), func(x *api.FireTown) { x.House.Marks, x.Places[0], x.Places[1] = nil, 0, 1 }), true, list(0), list(2)},
		{changed(largest(), func(x *api.FireTown) { x.House.Marks, x.Places[0] = nil, 0 }), true, list(0), list(1)},
		// A town without anything that is there is safe.
		{changed(largest(), func(x *api.FireTown) { x.Minute = 98 }), true, list(0), list(none)}, {changed(largest(), func(x *api.FireTown) { x.Minute, x.Rooms = 0, list(0, 0, 0) }), true, list(0), list(none)},
		{withT(func(x *api.FireTown) { x.Minute = 4 }), false, list(0, 3), list(0, none)},
	} {
		if is, e := fire.Safe(x.t); is != x.safe || e != api.OK {
			t.Errorf("%d: Safe = %v, %d", i, is, e)
		}
		for n, page := range x.pages {
			b, e := fire.Bears(x.t, page)
			if want := x.bears[n]; want != none && (b != want || e != api.OK) || want == none && (b != 0 || e != api.ErrNone) {
				t.Errorf("%d: Bears(%d) = %d, %d, want %d", i, page, b, e, want)
			}
		}
	}
}

// P10.11 and P10.12
func TestRemedies(t *testing.T) {
	for i, x := range []struct {
		t      api.FireTown
		cheap  int
		places []int // nil: there is no remedy
	}{
		{townT(), 5, list(0, 0, 1, 1, 0)}, {at(townT(), list(0, 0, 1, 1, 0)), 0, list(0, 0, 1, 1, 0)}, {bare(), 0, []int{}},
		// There is less room: first in the building 0, then in all.
		{withT(func(x *api.FireTown) { x.Rooms = list(2, 4, 1) }), 5, list(0, 0, 1, 1, 2)}, {withT(func(x *api.FireTown) { x.Rooms = list(1, 4, 2) }), 5, list(0, 2, 1, 1, 2)},
		{withT(func(x *api.FireTown) { x.Rooms = list(1, 4, 1) }), 14, list(1, 0, 1, 1, 2)}, {withT(func(x *api.FireTown) { x.Rooms = list(2, 4, 0) }), 14, list(1, 0, 1, 1, 0)},
		{withT(func(x *api.FireTown) { x.Rooms = list(1, 4, 0) }), 0, nil}, {withT(func(x *api.FireTown) { x.Rooms = list(1, 4) }), 0, nil},
		// Of those that cost as much, the fewest things; of as many the least places.
		{withT(func(x *api.FireTown) { x.Carry = list(0, 0, 0, 0, 0) }), 0, list(0, 0, 1, 0, 1)}, {withT(func(x *api.FireTown) { x.Carry = list(9, 2, 2, 3, 3) }), 5, list(0, 0, 1, 0, 1)},
		{withT(func(x *api.FireTown) { x.Carry, x.Rooms = list(1, 2, 1, 3, 3), list(2, 4, 1) }), 4, list(0, 1, 0, 1, 2)}, {withT(func(x *api.FireTown) { x.Carry, x.Rooms = list(1, 3, 3, 2, 2), list(2, 4, 0) }), 6, list(1, 0, 1, 0, 1)},
		// What costs nothing is not carried without need.
		{at(withT(func(x *api.FireTown) { x.Carry = make([]int, 5) }), list(1, 1, 0, 1, 0)), 0, list(1, 1, 0, 1, 0)}, {at(withT(func(x *api.FireTown) { x.Carry = make([]int, 5) }), list(1, 1, 0, 1, 1)), 0, list(1, 1, 0, 0, 1)},
		// All is carried at once: no room is needed in between.
		{twins(), 13, list(0, 1, 1, 0, 0, 1, 0, 1)}, {changed(twins(), func(x *api.FireTown) { x.Rooms[1] = 3 }), 0, nil}, {changed(twins(), func(x *api.FireTown) { x.Rooms = append(x.Rooms, 9) }), 13, list(0, 1, 1, 0, 0, 1, 0, 1)},
		// One fresh thing alone, or none, or one building.
		{torn(), 0, nil}, {largest(), 0, nil}, {withT(func(x *api.FireTown) { x.Places, x.Rooms = make([]int, 5), list(9) }), 0, nil},
		{changed(largest(), func(x *api.FireTown) { x.House.Marks = nil }), 99, list(0, 2, 2, 2, 2, 2, 2, 2)}, {changed(largest(), func(x *api.FireTown) { x.House.Marks, x.Rooms[2] = x.House.Marks[:0], 8 }), 99, list(0, 2, 2, 2, 2, 2, 2, 2)},
		// What is not there stays, though it costs nothing, and needs no room and no fresh thing.
		{changed(largest(), func(x *api.FireTown) { x.Minute, x.Rooms = 98, list(0, 0, 0) }), 0, slices.Repeat(list(2), 8)},
		{withT(func(x *api.FireTown) { x.Minute, x.Carry[4] = 29, 0 }), 0, nil}, {withT(func(x *api.FireTown) { x.Minute, x.House.Things[3].At, x.House.Marks, x.Carry[4] = 29, 30, nil, 0 }), 0, list(0, 1, 1, 1, 1)},
		{withT(func(x *api.FireTown) { x.Minute, x.House.Things[3].At, x.House.Marks[1].At = 29, 30, 30 }), 2, list(0, 0, 1, 1, 1)},
	} {
		n, e1 := fire.Cheap(x.t)
		l, e2 := fire.Carry(x.t)
		if x.places == nil {
			checks.Expect(t, i, api.ErrNone, checks.Said("Cheap", e1, n == 0), checks.Said("Carry", e2, len(l) == 0))
		} else if n != x.cheap || !slices.Equal(l, x.places) || e1+e2 != api.OK {
			t.Errorf("%d: Cheap = %d, %d, want %d; Carry = %v, %d, want %v", i, n, e1, x.cheap, l, e2, x.places)
		}
	}
}

// P10.2 to P10.12: TestAllCalls holds each call against what the chapter says word by word.
func TestAllCalls(t *testing.T) {
	for i, x := range slices.Concat(someTowns(2000, 8), []api.FireTown{townT(), torn(), bare(), twins(), largest()}) {
		for n := range x.House.Things {
			checkThing(t, i, x, n)
		}
		for building := range x.Rooms {
			checkFire(t, i, x, building)
		}
		is, e1 := fire.Safe(x)
		n, e2 := fire.Worst(x)
		if is != wantSafe(x) || n != wantWorst(x) || fire.Check(x)+e1+e2 != api.OK {
			t.Errorf("%d: %v: Check = %d, Safe = %v, %d; Worst = %d, %d", i, x, fire.Check(x), is, e1, n, e2)
		}
	}
	remedied, none := 0, 0
	for i, x := range slices.Concat(someTowns(500, 5), someTowns(8, 7)) {
		if checkRemedy(t, i, x) {
			remedied++
		} else {
			none++
		}
	}
	if remedied < 100 || none < 100 {
		t.Errorf("only %d towns had a remedy, and %d had none", remedied, none)
	}
}

func checkThing(t *testing.T, i int, x api.FireTown, n int) {
	t.Helper()
	page, e1 := fire.Page(x, n)
	is, e2 := fire.Fresh(x, n)
	if page != wantPage(x, n) || is != slices.Contains(wantAllFresh(x), n) || e1+e2 != api.OK {
		t.Errorf("%d: %v: Page(%d) = %d, %d; Fresh = %v, %d", i, x, n, page, e1, is, e2)
	}
	if x.House.Things[n].Of >= 0 {
		checks.Expect(t, x, api.ErrArg, bears(x, n), again(x, 0, n))
		return
	}
	if !slices.Contains(wantThere(x), n) {
		checks.Expect(t, x, api.ErrNone, bears(x, n), again(x, 0, n))
		return
	}
	if b, e := fire.Bears(x, n); b != wantBears(x, n) || e != api.OK {
		t.Errorf("%d: %v: Bears(%d) = %d, %d, want %d", i, x, n, b, e, wantBears(x, n))
	}
}

func checkFire(t *testing.T, i int, x api.FireTown, building int) {
	t.Helper()
	l, e1 := fire.Left(x, building)
	m, e2 := fire.Lost(x, building)
	n, e3 := fire.Stale(x, building)
	if !slices.Equal(l, wantLeft(x, building)) || !slices.Equal(m, wantLost(x, building)) || !slices.Equal(n, wantStale(x, building)) || e1+e2+e3 != api.OK {
		t.Errorf("%d: %v: Left(%d) = %v, %d; Lost = %v, %d; Stale = %v, %d", i, x, building, l, e1, m, e2, n, e3)
	}
	for _, page := range wantPages(x, wantThere(x)) {
		want, left := wantAgain(x, building, page)
		l, e := fire.Again(x, building, page)
		if left && (!slices.Equal(l, want) || e != api.OK) || !left && (len(l) > 0 || e != api.ErrNone) {
			t.Errorf("%d: %v: Again(%d, %d) = %v, %d, want %v, if %v", i, x, building, page, l, e, want, left)
		}
	}
}

// checkRemedy reports whether there should be a remedy.
func checkRemedy(t *testing.T, i int, x api.FireTown) bool {
	t.Helper()
	all := wantRemedies(x)
	if len(all) == 0 {
		checks.Expect(t, x, api.ErrNone, carrying(x)...)
		return false
	}
	n, e1 := fire.Cheap(x)
	l, e2 := fire.Carry(x)
	if pence, _ := costs(x, all[0]); n != pence || !slices.Equal(l, all[0]) || e1+e2 != api.OK {
		t.Errorf("%d: %v: Cheap = %d, %d, want %d; Carry = %v, %d, want %v", i, x, n, e1, pence, l, e2, all[0])
	}
	return true
}

// R2 to R4: TestMemory looks for memory that is shared or changed, and for what one call leaves to the next one.
func TestMemory(t *testing.T) {
	// The lists have memory behind them that a call might write to.
	x := townT()
	x.House.Things, x.House.Marks = slices.Grow(x.House.Things, 4), slices.Grow(x.House.Marks, 8)
	x.Places, x.Carry, x.Rooms = slices.Grow(x.Places, 4), slices.Grow(x.Carry, 4), slices.Grow(x.Rooms, 4)
	safe := at(x, list(0, 0, 1, 1, 0))
	calls := []func() ([]int, api.Errno){
		func() ([]int, api.Errno) { return fire.Left(x, 0) },
		func() ([]int, api.Errno) { return fire.Lost(x, 1) },
		func() ([]int, api.Errno) { return fire.Stale(x, 1) },
		func() ([]int, api.Errno) { return fire.Again(x, 1, 0) },
		func() ([]int, api.Errno) { return fire.Carry(x) },
		func() ([]int, api.Errno) { return fire.Carry(safe) },
	}
	for range 2 {
		for n := range 3 {
			checks.ExpectNot(t, x, api.ErrArg, slices.Concat(ofTown(x), carrying(x), ofThing(x, n))...)
			checks.ExpectNot(t, x, api.ErrArg, bears(x, 0), bears(x, 3), again(x, n, 3))
		}
		for i, want := range lists(list(1, 2, 3, 4), list(3), list(0), list(0), list(0, 0, 1, 1, 0), list(0, 0, 1, 1, 0)) {
			l, e := calls[i]()
			if !slices.Equal(l, want) || e != api.OK {
				t.Errorf("%d: %v, %d, want %v", i, l, e, want)
			}
			checks.Spoil(l, -7)
		}
		if !same(x, townT()) || !slices.Equal(safe.Places, list(0, 0, 1, 1, 0)) {
			t.Fatalf("an argument was changed: %v, %v", x, safe)
		}
		if !checks.Clean(x.House.Things) || !checks.Clean(x.House.Marks) || !checks.Clean(x.Places) || !checks.Clean(x.Carry) || !checks.Clean(x.Rooms) {
			t.Fatal("what is behind an argument was changed")
		}
	}
}

// R3
func TestNilAndEmpty(t *testing.T) {
	empty := api.FireTown{House: api.ChangeHouse{Things: things(), Marks: marks()}, Places: list(), Carry: list(), Rooms: list(0)}
	for _, x := range []api.FireTown{bare(), empty} {
		checks.Expect(t, x, api.OK, slices.Concat(carrying(x), ofFire(x, 0))...)
		if is, e := fire.Safe(x); !is || e != api.OK {
			t.Errorf("Safe = %v, %d", is, e)
		}
	}
	for _, none := range [][]api.ChangeMark{nil, marks()} {
		x := withT(func(x *api.FireTown) { x.House.Marks = none })
		if l, e := fire.Stale(x, 1); len(l) > 0 || e != api.OK {
			t.Errorf("Stale = %v, %d", l, e)
		}
		checks.Expect(t, x, api.OK, again(x, 1, 0))
	}
	for _, none := range lists(nil, list()) {
		checks.Expect(t, none, api.ErrFire, ofTown(withT(func(x *api.FireTown) { x.Rooms = none }))...)
	}
}
