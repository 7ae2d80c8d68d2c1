package changes_test

import (
	"math"
	"slices"
	"testing"

	"flong/api"
	"flong/changes"
	"flong/checks"
)

const most, least = math.MaxInt, math.MinInt

func has(h api.ChangeHouse, thing, change, minute int) checks.Answer {
	ok, e := changes.Has(h, thing, change, minute)
	return checks.Said("Has", e, !ok)
}

// since returns the answers of the calls that have a thing and a change.
func since(h api.ChangeHouse, thing, change int) []checks.Answer {
	n, e1 := changes.Since(h, thing, change)
	i, e2 := changes.Source(h, thing, change)
	return []checks.Answer{checks.Said("Since", e1, n == 0), checks.Said("Source", e2, i == 0)}
}

func when(h api.ChangeHouse, change int) checks.Answer {
	s, e := changes.Time(h, change)
	return checks.Said("Time", e, s == api.Span{})
}

// ofChange returns the answers of the calls that have a change alone, but for Time, which can have none.
func ofChange(h api.ChangeHouse, change int) []checks.Answer {
	a, e1 := changes.All(h, change)
	l, e2 := changes.Lacks(h, change)
	return []checks.Answer{checks.Said("All", e1, len(a) == 0), checks.Said("Lacks", e2, len(l) == 0)}
}

// fromNow returns the answers of the calls that have a change and a minute from which on things are altered.
func fromNow(h api.ChangeHouse, change, now int) []checks.Answer {
	n, e1 := changes.Cheap(h, change, now)
	l, e2 := changes.Remedy(h, change, now)
	return []checks.Answer{checks.Said("Cheap", e1, n == 0), checks.Said("Remedy", e2, len(l) == 0)}
}

func must(h api.ChangeHouse, change, now, thing int) checks.Answer {
	k, e := changes.Must(h, change, now, thing)
	return checks.Said("Must", e, k == 0)
}

func mixed(h api.ChangeHouse, plates []int, minute int) checks.Answer {
	l, e := changes.Mixed(h, plates, minute)
	return checks.Said("Mixed", e, len(l) == 0)
}

// P7.1
func TestCheckValid(t *testing.T) {
	for i, h := range []api.ChangeHouse{
		{}, houseH(), houseG(), houseL(), chain(), house(things(thing(-1, 0, 0, 0))), house(things(thing(-1, 99, 99, 1)), mark(2, 0, 99)),
		// What is made of a thing can be made at its minute, and so can a change.
		house(things(thing(-1, 7, 0, 0), thing(0, 7, 0, 1)), mark(0, 0, 7), mark(0, 1, 7)), house(things(thing(-1, 7, 0, 0), thing(-1, 3, 0, 1))),
	} {
		if e := changes.Check(h); e != api.OK {
			t.Errorf("%d: Check(%v) = %d", i, h, e)
		}
	}
}

// invalid has houses that are not valid, each by one number or one length.
func invalid() []api.ChangeHouse {
	var houses []api.ChangeHouse
	add := func(change func(h *api.ChangeHouse, n int), numbers ...int) {
		for _, n := range numbers {
			houses = append(houses, withH(func(h *api.ChangeHouse) { change(h, n) }))
		}
	}
	add(func(h *api.ChangeHouse, n int) { h.Things = append(h.Things, slices.Repeat(h.Things[:1], n)...) }, 3, 4, 1000)
	add(func(h *api.ChangeHouse, n int) { h.Marks = slices.Repeat(h.Marks[:1], n) }, 7, 8, 1000)
	add(func(h *api.ChangeHouse, n int) { h.Things = h.Things[:n] }, 0, 1)
	for i, x := range houseH().Things {
		add(func(h *api.ChangeHouse, n int) { h.Things[i].Of = n }, -2, i, i+1, 6, 8, most, least)
		add(func(h *api.ChangeHouse, n int) { h.Things[i].At = n }, -1, 100, 101, most, least)
		add(func(h *api.ChangeHouse, n int) { h.Things[i].Cost = n }, -1, 100, 101, most, least)
		add(func(h *api.ChangeHouse, n int) { h.Things[i].Prints = n }, -1, 2, most, least)
		if x.Of >= 0 {
			add(func(h *api.ChangeHouse, n int) { h.Things[x.Of].At = n }, x.At+1, 99)
		}
	}
	for i, m := range houseH().Marks {
		add(func(h *api.ChangeHouse, n int) { h.Marks[i].Change = n }, -1, 3, 4, most, least)
		add(func(h *api.ChangeHouse, n int) { h.Marks[i].Thing = n }, -1, 6, 7, 8, most, least)
		add(func(h *api.ChangeHouse, n int) { h.Marks[i].At = n }, -1, 100, 101, most, least)
		add(func(h *api.ChangeHouse, n int) { h.Things[m.Thing].At, h.Marks[i].At = n, n-1 }, 1, 2)
		add(func(h *api.ChangeHouse, n int) { h.Marks[i] = mark(m.Change, n, h.Things[n].At-1) }, 1, 2, 3, 4, 5)
	}
	return houses
}

// someNumbers has numbers of things that H has, and of things that no house has.
func someNumbers() []int { return list(0, 1, 2, 3, 5, -1, 6, 8, 99, 100, 999, most, least) }

// P1 and P7.1, and ErrChange ahead of all other errors
func TestCheckInvalid(t *testing.T) {
	for _, h := range invalid() {
		checks.Expect(t, h, api.ErrChange, checks.Said("Check", changes.Check(h), true))
		for _, n := range someNumbers() {
			checks.Expect(t, h, api.ErrChange, when(h, n), mixed(h, nil, n), mixed(h, list(2, 3), n), mixed(h, list(3, n), 40), mixed(h, list(n), n))
			checks.Expect(t, h, api.ErrChange, ofChange(h, n)...)
			for _, k := range someNumbers() {
				checks.Expect(t, h, api.ErrChange, has(h, n, k, 40), has(h, 2, n, k), must(h, n, k, 2), must(h, 0, n, k))
				checks.Expect(t, h, api.ErrChange, since(h, n, k)...)
				checks.Expect(t, h, api.ErrChange, fromNow(h, n, k)...)
			}
		}
	}
}

// P1, and ErrArg, also ahead of ErrNone
func TestNotOfTheHouse(t *testing.T) {
	h := houseH()
	for _, n := range list(-1, 6, 7, 8, 999, most, least) {
		checks.Expect(t, n, api.ErrArg, has(h, n, 0, 40), must(h, 0, 15, n), mixed(h, list(n), 40), mixed(h, list(2, n), 40), mixed(h, list(n, 5), 40))
		checks.Expect(t, n, api.ErrArg, since(h, n, 0)...)
	}
	for _, n := range list(-1, 3, 4, 999, most, least) {
		checks.Expect(t, n, api.ErrArg, has(h, 2, n, 40), must(h, n, 15, 2), when(h, n))
		checks.Expect(t, n, api.ErrArg, slices.Concat(since(h, 2, n), ofChange(h, n), fromNow(h, n, 15))...)
	}
	for _, n := range list(-1, 100, 101, 999, most, least) {
		checks.Expect(t, n, api.ErrArg, has(h, 2, 0, n), must(h, 0, n, 2), mixed(h, nil, n), mixed(h, list(2, 3), n))
		checks.Expect(t, n, api.ErrArg, fromNow(h, 0, n)...)
	}
	empty := api.ChangeHouse{}
	checks.Expect(t, "no things", api.ErrArg, append(since(empty, 0, 0), has(empty, 0, 0, 0), must(empty, 0, 0, 0), mixed(empty, list(0), 0))...)
}

// P7.2
func TestHas(t *testing.T) {
	for i, x := range []struct {
		h                     api.ChangeHouse
		thing, change, minute int
		want                  bool
	}{
		{houseH(), 3, 0, 19, false}, {houseH(), 3, 0, 20, true}, {houseH(), 3, 0, 99, true}, {houseH(), 1, 0, 11, false}, {houseH(), 1, 0, 12, true},
		{houseH(), 2, 0, 99, false}, {houseH(), 0, 0, 99, false}, {houseH(), 5, 1, 29, false}, {houseH(), 5, 1, 30, true}, {houseH(), 1, 1, 99, false}, {houseH(), 5, 2, 99, false},
		// What is changed at a minute is in what is made at this minute, and not in what was made a minute earlier.
		{chain(mark(0, 0, 5)), 1, 0, 5, true}, {chain(mark(0, 0, 6)), 1, 0, 99, false}, {chain(mark(0, 0, 4)), 1, 0, 4, false}, {chain(mark(0, 2, 20)), 3, 0, 20, true},
		{chain(mark(0, 2, 21)), 3, 0, 99, false}, {chain(mark(0, 0, 0)), 3, 0, 20, true}, {chain(mark(0, 0, 0)), 3, 0, 19, false},
		// It is not in that of which a thing is made, nor in what else is made of this.
		{chain(mark(0, 3, 20)), 2, 0, 99, false}, {houseL(), 7, 2, 98, false}, {houseL(), 7, 2, 99, true}, {houseL(), 6, 2, 99, false},
	} {
		if ok, e := changes.Has(x.h, x.thing, x.change, x.minute); ok != x.want || e != api.OK {
			t.Errorf("%d: Has(%d, %d, %d) = %v, %d", i, x.thing, x.change, x.minute, ok, e)
		}
	}
}

// P7.3 and P7.4
func TestSinceAndSource(t *testing.T) {
	two := things(thing(-1, 0, 0, 0), thing(0, 10, 0, 1))
	for i, x := range []struct {
		h                            api.ChangeHouse
		thing, change, since, source int // -1: never
	}{
		{houseH(), 3, 0, 20, 0}, {houseH(), 5, 1, 30, 1}, {houseH(), 2, 0, -1, -1}, {houseH(), 1, 0, 12, 0}, {houseH(), 0, 1, 22, 1}, {houseH(), 4, 1, 25, 1},
		{houseH(), 0, 0, -1, -1}, {houseH(), 1, 1, -1, -1}, {houseH(), 5, 0, -1, -1}, {houseH(), 3, 2, -1, -1}, {houseL(), 7, 2, 99, 0}, {houseL(), 0, 2, -1, -1},
		// A mark of a thing itself is ahead of what it was made with, unless it is later.
		{house(two, mark(0, 0, 5), mark(0, 1, 10)), 1, 0, 10, 1}, {house(two, mark(0, 0, 5), mark(0, 1, 11)), 1, 0, 10, 0}, {house(two, mark(0, 0, 11), mark(0, 1, 11)), 1, 0, 11, 1},
		{house(two, mark(0, 0, 10), mark(0, 1, 99)), 1, 0, 10, 0}, {house(two, mark(0, 0, 11), mark(0, 1, 99)), 1, 0, 99, 1},
		// The earliest mark, the first one of several.
		{house(two, mark(0, 0, 7), mark(0, 0, 5), mark(0, 0, 5)), 0, 0, 5, 1}, {house(two, mark(0, 0, 7), mark(0, 0, 5), mark(0, 0, 5)), 1, 0, 10, 1},
		{house(two, mark(0, 0, 5), mark(0, 0, 5), mark(0, 0, 4)), 1, 0, 10, 2}, {house(two, mark(1, 0, 3), mark(0, 0, 5), mark(0, 1, 13)), 1, 0, 10, 1},
		// That by which the other thing has it when this one is made: its own mark, if that is there by then.
		{chain(mark(0, 0, 5), mark(0, 2, 15)), 3, 0, 20, 1}, {chain(mark(0, 0, 5), mark(0, 2, 20)), 3, 0, 20, 1}, {chain(mark(0, 0, 5), mark(0, 2, 21)), 3, 0, 20, 0},
		{chain(mark(0, 0, 5), mark(0, 2, 15)), 2, 0, 10, 0}, {chain(mark(0, 0, 5), mark(0, 2, 10)), 2, 0, 10, 1},
		// What came into a thing only when another one was made of it already is not that by which this one has it.
		{chain(mark(0, 0, 3), mark(0, 1, 15)), 3, 0, 20, 0}, {chain(mark(0, 0, 3), mark(0, 1, 10)), 3, 0, 20, 1}, {chain(mark(0, 1, 15)), 3, 0, -1, -1}, {chain(mark(0, 0, 6), mark(0, 1, 10)), 3, 0, 20, 1},
	} {
		n, e1 := changes.Since(x.h, x.thing, x.change)
		k, e2 := changes.Source(x.h, x.thing, x.change)
		if x.since >= 0 && (n != x.since || k != x.source || e1+e2 != api.OK) || x.since < 0 && (n != 0 || k != 0 || e1 != api.ErrNone || e2 != api.ErrNone) {
			t.Errorf("%d: Since(%d, %d) = %d, %d, want %d; Source = %d, %d, want %d", i, x.thing, x.change, n, e1, x.since, k, e2, x.source)
		}
	}
}

// P7.5, P7.6 and P7.8
func TestAllLacksAndTime(t *testing.T) {
	none := span(-1, -1)
	plates := things(thing(-1, 0, 0, 1), thing(-1, 0, 0, 1), thing(-1, 50, 0, 1))
	made := things(thing(-1, 0, 0, 1), thing(0, 20, 0, 1), thing(-1, 3, 0, 0))
	for i, x := range []struct {
		h          api.ChangeHouse
		change     int
		all, lacks []int
		time       api.Span
	}{
		{houseH(), 0, list(1, 3), list(2, 5), span(20, 99)}, {houseH(), 1, list(0, 4, 5), list(2, 3), span(30, 99)}, {houseH(), 2, nil, list(2, 3, 5), none},
		{api.ChangeHouse{}, 0, nil, nil, none}, {houseL(), 2, list(7), list(0, 1, 2, 3, 4, 5, 6), span(99, 99)}, {houseL(), 0, nil, list(0, 1, 2, 3, 4, 5, 6, 7), none},
		// Both have it at last; for a minute one had.
		{house(plates[:2], mark(0, 0, 5), mark(0, 1, 6)), 0, list(0, 1), nil, span(5, 5)}, {house(plates[:2], mark(0, 0, 5), mark(0, 1, 5)), 0, list(0, 1), nil, none},
		{house(plates[:2], mark(0, 0, 0), mark(0, 1, 9)), 0, list(0, 1), nil, span(0, 8)}, {house(plates[:2], mark(0, 0, 9)), 0, list(0), list(1), span(9, 99)},
		// There may be minutes between at which none is mixed.
		{house(plates, mark(0, 0, 5), mark(0, 1, 6), mark(0, 2, 52)), 0, list(0, 1, 2), nil, span(5, 51)}, {house(plates, mark(0, 2, 99)), 0, list(2), list(0, 1), span(99, 99)},
		{house(plates, mark(0, 0, 5), mark(0, 1, 5)), 0, list(0, 1), list(2), span(50, 99)},
		// What is not there, or does not print, lacks nothing; what does not print can have it.
		{house(made, mark(0, 0, 20)), 0, list(0, 1), nil, none}, {house(made, mark(0, 0, 21)), 0, list(0), list(1), span(21, 99)}, {house(made, mark(0, 2, 3)), 0, list(2), list(0, 1), none},
	} {
		a, e1 := changes.All(x.h, x.change)
		l, e2 := changes.Lacks(x.h, x.change)
		if !slices.Equal(a, x.all) || !slices.Equal(l, x.lacks) || e1+e2 != api.OK {
			t.Errorf("%d: All(%d) = %v, %d, want %v; Lacks = %v, %d, want %v", i, x.change, a, e1, x.all, l, e2, x.lacks)
		}
		s, e := changes.Time(x.h, x.change)
		if x.time != none && (s != x.time || e != api.OK) || x.time == none && (s != api.Span{} || e != api.ErrNone) {
			t.Errorf("%d: Time(%d) = %v, %d, want %v", i, x.change, s, e, x.time)
		}
	}
}

// P7.7
func TestMixed(t *testing.T) {
	all := house(slices.Repeat(things(thing(-1, 0, 0, 1)), 3), mark(2, 0, 7), mark(1, 1, 8), mark(0, 2, 9), mark(2, 1, 10), mark(2, 2, 10))
	for i, x := range []struct {
		h      api.ChangeHouse
		plates []int
		minute int
		want   []int
	}{
		{houseH(), list(3, 5), 40, list(0, 1)}, {houseH(), list(2, 3), 40, list(0)}, {houseH(), list(2, 5), 40, list(1)}, {houseH(), list(2, 3, 5), 40, list(0, 1)},
		{houseH(), list(2, 3), 20, list(0)}, {houseH(), list(3, 5), 30, list(0, 1)}, {houseH(), list(2), 10, nil}, {houseH(), list(5), 99, nil}, {houseH(), nil, 0, nil}, {houseH(), nil, 99, nil},
		{api.ChangeHouse{}, nil, 0, nil}, {houseL(), list(0, 7), 99, list(2)}, {houseL(), list(0, 1), 99, nil},
		{all, list(0, 1, 2), 6, nil}, {all, list(0, 1, 2), 7, list(2)}, {all, list(1, 2), 7, nil}, {all, list(0, 1, 2), 8, list(1, 2)}, {all, list(0, 1, 2), 9, list(0, 1, 2)},
		{all, list(0, 1, 2), 10, list(0, 1)}, {all, list(0, 2), 10, list(0)}, {all, list(0, 1), 99, list(1)},
	} {
		if l, e := changes.Mixed(x.h, x.plates, x.minute); !slices.Equal(l, x.want) || e != api.OK {
			t.Errorf("%d: Mixed(%v, %d) = %v, %d, want %v", i, x.plates, x.minute, l, e, x.want)
		}
	}
	// Not ascending, twice, no plate that prints, or not there yet.
	for _, plates := range lists(list(3, 2), list(2, 2), list(2, 3, 3), list(5, 2, 3), list(0), list(1), list(4), list(2, 4), list(0, 2), slices.Repeat(list(2), 1000)) {
		checks.Expect(t, plates, api.ErrArg, mixed(houseH(), plates, 40))
	}
	checks.Expect(t, "too early", api.ErrArg, mixed(houseH(), list(2, 3), 19), mixed(houseH(), list(2), 9), mixed(houseH(), list(3, 5), 29), mixed(houseL(), list(0), 98))
}

// P7.9 to P7.11
func TestRemedies(t *testing.T) {
	const surely, never, perhaps = api.Surely, api.Never, api.Perhaps
	dear := house(things(thing(-1, 0, 10, 0), thing(0, 5, 5, 1), thing(0, 5, 5, 1)))
	two := house(things(thing(-1, 0, 5, 0), thing(-1, 0, 5, 0), thing(0, 9, 5, 1), thing(1, 9, 5, 1)))
	free := house(things(thing(-1, 0, 0, 1), thing(-1, 0, 0, 0), thing(-1, 0, 1, 0)))
	for i, x := range []struct {
		h           api.ChangeHouse
		change, now int
		cheap       int
		remedy      []int
		must        []int
	}{
		{houseH(), 0, 15, 5, list(2, 5), list(never, never, surely, never, never, surely)}, {houseH(), 1, 0, 6, list(2, 3), list(never, never, surely, surely, never, never)},
		{houseG(), 1, 0, 9, list(1), list(never, surely, never, never, never, never)}, {houseG(), 1, 15, 10, list(2, 3), list(never, never, surely, surely, never, never)},
		{houseG(), 1, 10, 9, list(1), list(never, surely, never, never, never, never)}, {houseG(), 1, 11, 10, list(2, 3), list(never, never, surely, surely, never, never)},
		{api.ChangeHouse{}, 0, 0, 0, nil, nil}, {houseL(), 0, 0, 792, list(0, 1, 2, 3, 4, 5, 6, 7), slices.Repeat(list(surely), 8)},
		{houseL(), 2, 99, 693, list(0, 1, 2, 3, 4, 5, 6), list(surely, surely, surely, surely, surely, surely, surely, never)},
		// Fewer things of those that cost as much; what is altered at a minute is in what is made then.
		{dear, 0, 0, 10, list(0), list(perhaps, perhaps, perhaps)}, {dear, 0, 5, 10, list(0), list(perhaps, perhaps, perhaps)}, {dear, 0, 6, 10, list(1, 2), list(never, surely, surely)},
		{changed(dear, func(h *api.ChangeHouse) { h.Things[0].Cost = 11 }), 0, 0, 10, list(1, 2), list(never, surely, surely)},
		{with(dear, mark(0, 1, 5)), 0, 0, 5, list(2), list(never, never, surely)}, {with(dear, mark(0, 0, 5)), 0, 0, 0, nil, list(never, never, never)},
		// Of as many the least list.
		{chain(), 0, 0, 5, list(0), list(perhaps, perhaps, perhaps, perhaps)}, {chain(), 0, 6, 5, list(1), list(never, perhaps, perhaps, perhaps)},
		{chain(), 0, 11, 5, list(2), list(never, never, perhaps, perhaps)}, {chain(), 0, 99, 5, list(3), list(never, never, never, surely)},
		{two, 0, 0, 10, list(0, 1), list(perhaps, perhaps, perhaps, perhaps)}, {changed(two, func(h *api.ChangeHouse) { h.Things[1].Cost = 6 }), 0, 9, 10, list(0, 3), list(perhaps, never, perhaps, surely)},
		{changed(two, func(h *api.ChangeHouse) { h.Things[0].Cost = 6 }), 0, 9, 10, list(1, 2), list(never, perhaps, surely, perhaps)},
		// What costs nothing may be altered without need.
		{free, 0, 0, 0, list(0), list(surely, perhaps, never)}, {with(free, mark(0, 0, 0)), 0, 0, 0, nil, list(perhaps, perhaps, never)},
		{house(things(thing(-1, 0, 9, 0))), 0, 0, 0, nil, list(never)},
		// A thing is altered when it is there, even if it was changed in other ways already.
		{chain(mark(1, 0, 0), mark(2, 3, 30)), 0, 0, 5, list(0), list(perhaps, perhaps, perhaps, perhaps)}, {chain(mark(0, 0, 6)), 0, 5, 5, list(0), list(perhaps, perhaps, perhaps, perhaps)},
	} {
		n, e1 := changes.Cheap(x.h, x.change, x.now)
		l, e2 := changes.Remedy(x.h, x.change, x.now)
		if n != x.cheap || !slices.Equal(l, x.remedy) || e1+e2 != api.OK {
			t.Errorf("%d: Cheap(%d, %d) = %d, %d, want %d; Remedy = %v, %d, want %v", i, x.change, x.now, n, e1, x.cheap, l, e2, x.remedy)
		}
		for thing, want := range x.must {
			if k, e := changes.Must(x.h, x.change, x.now, thing); k != want || e != api.OK {
				t.Errorf("%d: Must(%d, %d, %d) = %d, %d, want %d", i, x.change, x.now, thing, k, e, want)
			}
		}
	}
}

// P7.2 to P7.11: TestAllCalls holds each call against what the chapter says word by word.
func TestAllCalls(t *testing.T) {
	for i, h := range slices.Concat(someHouses(400, 8), []api.ChangeHouse{houseH(), houseG(), houseL(), chain()}) {
		minutes := played(h)
		for change := range 3 {
			checkThings(t, i, h, minutes, change)
			checkEnd(t, i, h, minutes, change)
		}
		for minute, all := range minutes {
			checkMixed(t, i, h, minute, all)
		}
	}
	for i, h := range append(someHouses(150, 4), someHouses(12, 8)...) {
		for _, now := range list(0, 1, 5, 20, 90, 99) {
			checkRemedies(t, i, h, i%3, now)
		}
	}
}

func checkThings(t *testing.T, i int, h api.ChangeHouse, minutes [][]held, change int) {
	t.Helper()
	for thing := range h.Things {
		n, e1 := changes.Since(h, thing, change)
		k, e2 := changes.Source(h, thing, change)
		since, source := wantSince(minutes, thing, change)
		if since < 0 {
			checks.Expect(t, h, api.ErrNone, checks.Said("Since", e1, n == 0), checks.Said("Source", e2, k == 0))
		} else if n != since || k != source || e1+e2 != api.OK {
			t.Errorf("%d: %v: Since(%d, %d) = %d, %d, want %d; Source = %d, %d, want %d", i, h, thing, change, n, e1, since, k, e2, source)
		}
		for minute, all := range minutes {
			if ok, e := changes.Has(h, thing, change, minute); ok != all[thing].has(change) || e != api.OK {
				t.Errorf("%d: %v: Has(%d, %d, %d) = %v, %d", i, h, thing, change, minute, ok, e)
			}
		}
	}
}

func checkEnd(t *testing.T, i int, h api.ChangeHouse, minutes [][]held, change int) {
	t.Helper()
	a, e1 := changes.All(h, change)
	l, e2 := changes.Lacks(h, change)
	if !slices.Equal(a, wantAll(minutes, change)) || !slices.Equal(l, wantLacks(h, minutes, change)) || e1+e2 != api.OK {
		t.Errorf("%d: %v: All(%d) = %v, %d; Lacks = %v, %d", i, h, change, a, e1, l, e2)
	}
	s, e := changes.Time(h, change)
	want := wantTime(h, minutes, change)
	if want.Low < 0 {
		checks.Expect(t, h, api.ErrNone, checks.Said("Time", e, s == api.Span{}))
	} else if s != want || e != api.OK {
		t.Errorf("%d: %v: Time(%d) = %v, %d, want %v", i, h, change, s, e, want)
	}
}

// checkMixed asks for all plates that are there, and for these with one less, or with one that is not there.
func checkMixed(t *testing.T, i int, h api.ChangeHouse, minute int, all []held) {
	t.Helper()
	there := wantThere(h, all)
	for n := range append(there, 0) {
		plates := slices.Concat(there[:n], there[min(n+1, len(there)):])
		if l, e := changes.Mixed(h, plates, minute); !slices.Equal(l, wantMixed(all, plates)) || e != api.OK {
			t.Errorf("%d: %v: Mixed(%v, %d) = %v, %d, want %v", i, h, plates, minute, l, e, wantMixed(all, plates))
		}
	}
	for n := range h.Things {
		if !slices.Contains(there, n) {
			wrong := slices.Sorted(slices.Values(append(list(n), there...)))
			checks.Expect(t, h, api.ErrArg, mixed(h, wrong, minute))
		}
	}
}

func checkRemedies(t *testing.T, i int, h api.ChangeHouse, change, now int) {
	t.Helper()
	want := wantRemedies(h, change, now)
	n, e1 := changes.Cheap(h, change, now)
	l, e2 := changes.Remedy(h, change, now)
	if n != costs(h, want[0]) || !slices.Equal(l, want[0]) || e1+e2 != api.OK {
		t.Errorf("%d: %v: Cheap(%d, %d) = %d, %d; Remedy = %v, %d, want %v", i, h, change, now, n, e1, l, e2, want[0])
	}
	for thing := range h.Things {
		if k, e := changes.Must(h, change, now, thing); k != wantMust(h, want, thing) || e != api.OK {
			t.Errorf("%d: %v: Must(%d, %d, %d) = %d, %d, want %d", i, h, change, now, thing, k, e, wantMust(h, want, thing))
		}
	}
}

// R2 to R4: TestMemory looks for memory that is shared or changed, and for what one call leaves to the next one.
func TestMemory(t *testing.T) {
	// The lists have memory behind them that a call might write to.
	h, plates := houseH(), slices.Grow(list(2, 3), 4)
	h.Things, h.Marks = slices.Grow(h.Things, 4), slices.Grow(h.Marks, 8)
	calls := []func() ([]int, api.Errno){
		func() ([]int, api.Errno) { return changes.All(h, 1) },
		func() ([]int, api.Errno) { return changes.Lacks(h, 0) },
		func() ([]int, api.Errno) { return changes.Mixed(h, plates, 40) },
		func() ([]int, api.Errno) { return changes.Remedy(h, 1, 0) },
	}
	for range 2 {
		for n := range 3 {
			checks.ExpectNot(t, h, api.ErrArg, append(since(h, n, n), has(h, n, n, n), when(h, n), must(h, n, n, n))...)
			checks.ExpectNot(t, h, api.ErrArg, fromNow(h, n, n)...)
		}
		for i, want := range lists(list(0, 4, 5), list(2, 5), list(0), list(2, 3)) {
			l, e := calls[i]()
			if !slices.Equal(l, want) || e != api.OK {
				t.Errorf("%d: %v, %d, want %v", i, l, e, want)
			}
			l = l[:cap(l)]
			for n := range l {
				l[n] = -7
			}
		}
		if !slices.Equal(h.Things, houseH().Things) || !slices.Equal(h.Marks, houseH().Marks) || !slices.Equal(plates, list(2, 3)) {
			t.Fatalf("an argument was changed: %v, %v", h, plates)
		}
		for _, x := range h.Things[len(h.Things):cap(h.Things)] {
			if x != (api.ChangeThing{}) {
				t.Fatalf("what is behind the things was changed: %v", x)
			}
		}
		for _, m := range h.Marks[len(h.Marks):cap(h.Marks)] {
			if m != (api.ChangeMark{}) {
				t.Fatalf("what is behind the marks was changed: %v", m)
			}
		}
		if behind := plates[2:cap(plates)]; slices.Max(behind) != 0 || slices.Min(behind) != 0 {
			t.Fatalf("what is behind the plates was changed: %v", behind)
		}
	}
}

// R3
func TestNilAndEmpty(t *testing.T) {
	l := things(thing(-1, 0, 3, 1))
	for _, h := range []api.ChangeHouse{{Things: l}, {Things: l, Marks: []api.ChangeMark{}}} {
		n, e := changes.Cheap(h, 0, 0)
		if k, e2 := changes.Remedy(h, 0, 0); n != 3 || !slices.Equal(k, list(0)) || e+e2 != api.OK {
			t.Errorf("Cheap = %d, %d; Remedy = %v, %d", n, e, k, e2)
		}
		checks.Expect(t, h, api.OK, mixed(h, nil, 0), mixed(h, list(), 0))
		checks.Expect(t, h, api.ErrNone, append(since(h, 0, 0), when(h, 0))...)
	}
	for _, h := range []api.ChangeHouse{{}, {Things: things(), Marks: []api.ChangeMark{}}} {
		checks.Expect(t, h, api.OK, append(ofChange(h, 0), fromNow(h, 0, 0)...)...)
		checks.Expect(t, h, api.OK, checks.Said("Check", changes.Check(h), true), mixed(h, nil, 0))
	}
}
