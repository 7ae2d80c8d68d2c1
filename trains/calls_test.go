package trains_test

import (
	"math"
	"slices"
	"testing"

	"flong/api"
	"flong/checks"
	"flong/trains"
)

const most, least = math.MaxInt, math.MinInt

func good(h api.TrainHouse, plan [][]int) checks.Answer {
	ok, e := trains.Good(h, plan)
	return checks.Said("Good", e, !ok)
}

// planned returns the answers of the calls that have a plan, but for Good.
func planned(h api.TrainHouse, plan [][]int) []checks.Answer {
	m, e1 := trains.Times(h, plan)
	l, e2 := trains.Late(h, plan)
	return []checks.Answer{checks.Said("Times", e1, len(m) == 0), checks.Said("Late", e2, len(l) == 0)}
}

// unlisted returns the answers of the calls that have nothing but a house, but for Check.
func unlisted(h api.TrainHouse) []checks.Answer {
	n, e1 := trains.Fewest(h)
	p, e2 := trains.Plan(h)
	s, e3 := trains.Sure(h)
	l, e4 := trains.Told(h)
	k, e5 := trains.Key(h)
	m, e6 := trains.Spare(h)
	return []checks.Answer{
		checks.Said("Fewest", e1, n == 0), checks.Said("Plan", e2, len(p) == 0), checks.Said("Sure", e3, !s),
		checks.Said("Told", e4, len(l) == 0), checks.Said("Key", e5, k == 0), checks.Said("Spare", e6, m == 0),
	}
}

func without(h api.TrainHouse, machine int) checks.Answer {
	p, e := trains.Without(h, machine)
	return checks.Said("Without", e, len(p) == 0)
}

func wait(h api.TrainHouse, train int) checks.Answer {
	n, e := trains.Wait(h, train)
	return checks.Said("Wait", e, n == 0)
}

func spare(h api.TrainHouse) checks.Answer {
	n, e := trains.Spare(h)
	return checks.Said("Spare", e, n == 0)
}

// P4.1
func TestCheckValid(t *testing.T) {
	for i, h := range []api.TrainHouse{
		houseH(), houseG(), bare(), largest(0, 99, 0, 99), {Machines: []api.TrainMachine{machine(99, 9, 1), machine(0, 1, 0)}, Change: 9},
		withH(func(h *api.TrainHouse) { h.Bundles = nil }), withH(func(h *api.TrainHouse) { h.Bundles, h.Trains = nil, nil }),
		withH(func(h *api.TrainHouse) { h.Bundles[0], h.Bundles[2] = bundle(1, 9, 3), bundle(0, 1, 0) }),
		withH(func(h *api.TrainHouse) { h.Trains = list(0, 99, 99, 0) }), withH(func(h *api.TrainHouse) { h.Change = 0 }),
	} {
		if e := trains.Check(h); e != api.OK {
			t.Errorf("%d: Check(%v) = %d", i, h, e)
		}
	}
}

// invalid has houses that are not valid, each by one number or one length.
func invalid() []api.TrainHouse {
	var houses []api.TrainHouse
	add := func(change func(h *api.TrainHouse, n int), numbers ...int) {
		for _, n := range numbers {
			houses = append(houses, withH(func(h *api.TrainHouse) { change(h, n) }))
		}
	}
	for i := range 2 {
		add(func(h *api.TrainHouse, n int) { h.Machines[i].Ready = n }, -1, 100, most, least)
		add(func(h *api.TrainHouse, n int) { h.Machines[i].Pace = n }, 0, -1, 10, most, least)
		add(func(h *api.TrainHouse, n int) { h.Machines[i].Stops = n }, -1, 2, most, least)
		add(func(h *api.TrainHouse, n int) { h.Trains[i] = n }, -1, 100, most, least)
	}
	for i := range 3 {
		add(func(h *api.TrainHouse, n int) { h.Bundles[i].Train = n }, -1, 2, most, least)
		add(func(h *api.TrainHouse, n int) { h.Bundles[i].Hundreds = n }, 0, -1, 10, most, least)
		add(func(h *api.TrainHouse, n int) { h.Bundles[i].Edition = n }, -1, 4, most, least)
	}
	add(func(h *api.TrainHouse, n int) { h.Change = n }, -1, 10, most, least)
	add(func(h *api.TrainHouse, n int) { h.Machines = slices.Repeat(h.Machines[:1], n) }, 0, 4, 1000)
	add(func(h *api.TrainHouse, n int) { h.Bundles = slices.Repeat(h.Bundles[:1], n) }, 6, 7, 1000)
	add(func(h *api.TrainHouse, n int) { h.Trains = slices.Repeat(h.Trains[:1], n) }, 0, 1, 5, 1000)
	return append(houses, api.TrainHouse{}, api.TrainHouse{Trains: list(0)})
}

// P1 and P4.1, and ErrTrain ahead of all other errors
func TestCheckInvalid(t *testing.T) {
	for _, h := range invalid() {
		checks.Expect(t, h, api.ErrTrain, checks.Said("Check", trains.Check(h), true))
		checks.Expect(t, h, api.ErrTrain, unlisted(h)...)
		// Some of these are plans of H, and some name what only an invalid house has.
		for _, plan := range [][][]int{nil, lists(nil, nil), lists(list(0), list(2, 1)), lists(list(6, 5), nil), lists(list(999), nil), lists(list(0, 0), list(-1)), lists(list(most)), slices.Repeat(lists(nil), 1000)} {
			checks.Expect(t, h, api.ErrTrain, good(h, plan))
			checks.Expect(t, h, api.ErrTrain, planned(h, plan)...)
		}
		for _, n := range []int{0, 1, -1, 3, 999, most, least} {
			checks.Expect(t, h, api.ErrTrain, without(h, n), wait(h, n))
		}
	}
}

// notPlans has lists that are no plans of H.
func notPlans() [][][]int {
	return [][][]int{
		nil, {}, lists(nil), lists(list(0, 1, 2)), lists(nil, nil, nil), lists(list(0), list(1), list(2)), slices.Repeat(lists(nil), 1000),
		lists(list(0, 0), nil), lists(nil, list(1, 2, 1)), lists(list(2), list(2)), lists(list(0, 1), list(2, 0)), lists(nil, slices.Repeat(list(0), 1000)),
		lists(list(-1), nil), lists(nil, list(-1)), lists(list(3), nil), lists(nil, list(0, 3)), lists(list(0, 1, 2, 3), nil), lists(list(5), nil),
		lists(list(most), nil), lists(nil, list(least)), lists(list(0, most), list(1, least)),
	}
}

// P1, P4.2 to P4.4, P4.7 and P4.11: ErrArg, also ahead of ErrNone
func TestNotOfTheHouse(t *testing.T) {
	for _, h := range []api.TrainHouse{houseH(), houseG()} {
		for _, plan := range notPlans() {
			checks.Expect(t, plan, api.OK, good(h, plan))
			checks.Expect(t, plan, api.ErrArg, planned(h, plan)...)
		}
		for _, n := range []int{-1, 2, 3, 4, most, least} {
			checks.Expect(t, n, api.ErrArg, without(h, n), wait(h, n))
		}
	}
	checks.Expect(t, "no trains", api.ErrArg, wait(bare(), 0))
	checks.Expect(t, "one machine", api.ErrArg, without(bare(), 1))
	checks.Expect(t, "no bundles", api.ErrArg, planned(bare(), lists(list(0)))...)
}

// P4.2
func TestGood(t *testing.T) {
	for _, plan := range [][][]int{
		lists(nil, nil), lists(list(), nil), lists(list(0, 1, 2), nil), lists(nil, list(2, 1, 0)), lists(list(1), list(0)), lists(list(2), list(0, 1)),
	} {
		if ok, e := trains.Good(houseH(), plan); !ok || e != api.OK {
			t.Errorf("Good(%v) = %v, %d", plan, ok, e)
		}
	}
	if ok, e := trains.Good(bare(), lists(nil)); !ok || e != api.OK {
		t.Errorf("Good of no bundles = %v, %d", ok, e)
	}
}

// P4.3 and P4.4
func TestTimesAndLate(t *testing.T) {
	both := lists(list(0, 1), list(2))
	for i, x := range []struct {
		h           api.TrainHouse
		plan        [][]int
		times, late []int
	}{
		{houseH(), both, list(8, 14, 20), nil}, {houseH(), lists(list(2), list(0)), list(17, -1, 10), list(0, 1)}, {houseH(), lists(nil, nil), list(-1, -1, -1), list(0, 1)},
		{houseH(), lists(list(0), nil), list(8, -1, -1), list(1)}, {houseH(), lists(nil, list(1, 2)), list(-1, 14, 31), list(0)}, {houseH(), lists(list(2, 1), list(0)), list(17, 18, 10), list(0)},
		// Change is ahead of each bundle of another edition, but not ahead of the first one.
		{houseH(), lists(list(0, 2, 1), nil), list(8, 28, 20), nil}, {houseH(), lists(list(1, 2, 0), nil), list(28, 6, 18), list(0)}, {houseH(), lists(list(1, 0, 2), nil), list(14, 6, 26), list(0)},
		{withH(func(h *api.TrainHouse) { h.Change = 9 }), lists(list(0, 2, 1), nil), list(8, 42, 27), list(1)}, {withH(func(h *api.TrainHouse) { h.Change = 0 }), lists(list(0, 2, 1), nil), list(8, 24, 18), nil},
		// At its minute a train is in time, and a minute later it is late.
		{withH(func(h *api.TrainHouse) { h.Trains = list(8, 20) }), both, list(8, 14, 20), nil}, {withH(func(h *api.TrainHouse) { h.Trains = list(7, 20) }), both, list(8, 14, 20), list(0)},
		{withH(func(h *api.TrainHouse) { h.Trains = list(8, 19) }), both, list(8, 14, 20), list(1)}, {withH(func(h *api.TrainHouse) { h.Trains = list(8, 13) }), both, list(8, 14, 20), list(1)},
		// A train without bundles is never late.
		{withH(func(h *api.TrainHouse) { h.Trains = list(10, 31, 0) }), both, list(8, 14, 20), nil}, {withH(func(h *api.TrainHouse) { h.Bundles = nil }), lists(nil, nil), nil, nil},
		{bare(), lists(nil), nil, nil}, {withH(func(h *api.TrainHouse) { h.Machines[0].Ready = 99 }), lists(list(0, 1, 2), nil), list(107, 113, 125), list(0, 1)},
		{largest(99, 99, 99, 99), lists(list(0, 1, 2, 3, 4), nil, nil), list(180, 270, 360, 450, 531), list(0, 1, 2, 3)},
		{largest(99, 99, 99, 99), lists(list(4), list(3), list(1)), list(-1, 180, -1, 180, 180), list(0, 1, 2, 3)},
	} {
		m, e := trains.Times(x.h, x.plan)
		l, f := trains.Late(x.h, x.plan)
		if !slices.Equal(m, x.times) || e != api.OK || !slices.Equal(l, x.late) || f != api.OK {
			t.Errorf("%d: Times = %v, %d, want %v; Late = %v, %d, want %v", i, m, e, x.times, l, f, x.late)
		}
	}
}

// P4.5 to P4.7, and P4.10
func TestBestPlans(t *testing.T) {
	for i, x := range []struct {
		h       api.TrainHouse
		fewest  int
		plan    [][]int
		key     int
		stopped [][][]int // the plan without each machine
	}{
		{houseH(), 0, lists(list(0), list(1, 2)), 0, [][][]int{lists(nil, list(1, 2)), lists(list(0, 1, 2), nil)}},
		{houseG(), 0, lists(list(0), list(1, 2)), 0, [][][]int{lists(nil, list(1, 2)), lists(list(0, 1, 2), nil)}},
		{bare(), 0, lists(nil), 0, [][][]int{lists(nil)}},
		// Where all are late by each plan nothing is printed by the least one.
		{largest(99, 99, 99, 99), 4, lists(nil, nil, nil), 0, slices.Repeat([][][]int{lists(nil, nil, nil)}, 3)},
		// One of the trains 0 and 1 is late, and a list is less than those that go on behind it; with a Change only 1 and 2 are in time together.
		{single(5, 0, list(0, 0, 0), list(5, 5, 10)), 1, lists(list(0, 2)), 0, [][][]int{lists(nil)}},
		{single(5, 1, list(0, 1, 1), list(5, 5, 10)), 1, lists(list(1, 2)), 0, [][][]int{lists(nil)}},
		{single(5, 0, list(0, 0, 0), list(15, 10, 5)), 0, lists(list(2, 1, 0)), 0, [][][]int{lists(nil)}},
		// The machine whose stop is worse has the greater number; it may not stop, but it is asked what would be.
		{withH(func(h *api.TrainHouse) { slices.Reverse(h.Machines) }), 0, lists(nil, list(0, 1, 2)), 1, [][][]int{lists(nil, list(0, 1, 2)), lists(list(1, 2), nil)}},
		{withH(func(h *api.TrainHouse) { h.Machines[1] = machine(0, 2, 0) }), 0, lists(nil, list(0, 1, 2)), 0, [][][]int{lists(nil, list(0, 1, 2)), lists(list(0, 1, 2), nil)}},
	} {
		n, e := trains.Fewest(x.h)
		p, f := trains.Plan(x.h)
		k, g := trains.Key(x.h)
		if n != x.fewest || e != api.OK || !equal(p, x.plan) || f != api.OK || k != x.key || g != api.OK {
			t.Errorf("%d: Fewest = %d, %d, want %d; Plan = %v, %d, want %v; Key = %d, %d, want %d", i, n, e, x.fewest, p, f, x.plan, k, g, x.key)
		}
		for on, want := range x.stopped {
			if p, e := trains.Without(x.h, on); !equal(p, want) || e != api.OK {
				t.Errorf("%d: Without(%d) = %v, %d, want %v", i, on, p, e, want)
			}
		}
	}
}

// P4.8, P4.9, P4.11 and P4.12
func TestSure(t *testing.T) {
	for i, x := range []struct {
		h     api.TrainHouse
		told  []int
		waits []int // -1: there is none
		spare int   // -1: the house is not sure
	}{
		{houseH(), list(0), list(33, -1), -1}, {houseG(), nil, list(0, 0), 2}, {bare(), nil, nil, 99},
		{withH(func(h *api.TrainHouse) { h.Trains[0] = 43 }), nil, list(0, 0), 0}, {withH(func(h *api.TrainHouse) { h.Trains[0] = 42 }), list(0), list(1, 12), -1},
		{withH(func(h *api.TrainHouse) { h.Trains = list(53, 41) }), nil, list(0, 0), 10},
		// Both are late without 0, but the train 1 can be in time if 0 is told.
		{withH(func(h *api.TrainHouse) { h.Machines[0].Stops, h.Machines[1].Stops = 1, 1 }), list(0), list(33, -1), -1},
		// Without a machine nothing is printed, and only trains without bundles are in time.
		{changed(single(1, 0, list(0, 0), list(99, 0, 99)), func(h *api.TrainHouse) { h.Machines[0].Stops, h.Bundles[1].Train = 1, 2 }), list(0, 2), list(-1, -1, -1), -1},
		// Another train is always late, so waiting is of no use, even for a train without bundles.
		{single(5, 0, list(0, 0), list(4, 4)), list(0, 1), list(-1, -1), -1}, {single(5, 0, list(0), list(4, 50)), list(0), list(1, -1), -1},
		{single(5, 0, list(0), list(5, 0)), nil, list(0, 0), 0}, {single(5, 0, list(0), list(99)), nil, list(0), 94},
		// Of two trains that are alike the first one is told, and of more lists that are as short the least one.
		{single(5, 0, list(0, 0), list(5, 5)), list(0), list(5, 5), -1}, {single(5, 0, list(0, 0, 0, 0), list(5, 5, 10, 10)), list(0, 1), list(-1, -1, -1, -1), -1},
		{single(5, 0, list(0, 0, 0, 0), list(9, 20, 14, 9)), list(0), list(6, -1, -1, 6), -1}, {single(5, 0, list(0, 0, 0, 0), list(20, 9, 9, 9)), list(1, 2), list(-1, -1, -1, -1), -1},
		// A shorter list is better than a lesser one.
		{changed(single(5, 0, list(0, 0, 0), list(5, 5, 5)), func(h *api.TrainHouse) { h.Bundles[2].Hundreds = 2; h.Trains[0], h.Trains[1] = 10, 10 }), list(2), list(-1, -1, 15), -1},
		// A train can wait until MaxTrainMinute, and not a minute longer.
		{changed(single(9, 0, list(0), list(0)), func(h *api.TrainHouse) { h.Machines[0].Ready = 90 }), list(0), list(99), -1}, {changed(single(9, 0, list(0), list(0)), func(h *api.TrainHouse) { h.Machines[0].Ready = 91 }), list(0), list(-1), -1},
	} {
		sure, e := trains.Sure(x.h)
		told, f := trains.Told(x.h)
		n, g := trains.Spare(x.h)
		if sure != (x.spare >= 0) || e != api.OK || !slices.Equal(told, x.told) || f != api.OK {
			t.Errorf("%d: Sure = %v, %d; Told = %v, %d, want %v", i, sure, e, told, f, x.told)
		}
		if x.spare >= 0 && (n != x.spare || g != api.OK) || x.spare < 0 && (n != 0 || g != api.ErrNone) {
			t.Errorf("%d: Spare = %d, %d, want %d", i, n, g, x.spare)
		}
		for train, want := range x.waits {
			if n, e := trains.Wait(x.h, train); want >= 0 && (n != want || e != api.OK) || want < 0 && (n != 0 || e != api.ErrNone) {
				t.Errorf("%d: Wait(%d) = %d, %d, want %d", i, train, n, e, want)
			}
		}
	}
}

// P4.2 to P4.12: TestAllCalls holds each call against what the chapter says word by word.
func TestAllCalls(t *testing.T) {
	seen := map[bool]int{}
	for i, h := range append(someHouses(500, 3), someHouses(40, 5)...) {
		all := printed(h)
		checkPlans(t, i, h)
		checkCases(t, i, h, all)
		seen[inTime(h, all, h.Trains, nil)]++
	}
	if seen[true] < 100 || seen[false] < 100 {
		t.Errorf("only %v houses were sure or not", seen)
	}
}

func checkPlans(t *testing.T, i int, h api.TrainHouse) {
	t.Helper()
	plans := allPlans(h, none)
	for n := 0; n < len(plans); n += 1 + len(plans)/40 {
		plan := plans[n]
		ok, e1 := trains.Good(h, plan)
		m, e2 := trains.Times(h, plan)
		l, e3 := trains.Late(h, plan)
		if !ok || !slices.Equal(m, wantTimes(h, plan)) || !slices.Equal(l, wantLate(h, plan)) || e1+e2+e3 != api.OK {
			t.Errorf("%d: %v, %v: Good = %v, %d; Times = %v, %d; Late = %v, %d", i, h, plan, ok, e1, m, e2, l, e3)
		}
	}
	best, late := wantBest(h, none)
	n, e1 := trains.Fewest(h)
	p, e2 := trains.Plan(h)
	k, e3 := trains.Key(h)
	if n != late || !equal(p, best) || k != wantKey(h) || e1+e2+e3 != api.OK {
		t.Errorf("%d: %v: Fewest = %d, %d, want %d; Plan = %v, %d, want %v; Key = %d, %d, want %d", i, h, n, e1, late, p, e2, best, k, e3, wantKey(h))
	}
	for on := range h.Machines {
		best, _ := wantBest(h, on)
		if p, e := trains.Without(h, on); !equal(p, best) || e != api.OK {
			t.Errorf("%d: Without(%v, %d) = %v, %d, want %v", i, h, on, p, e, best)
		}
	}
}

func checkCases(t *testing.T, i int, h api.TrainHouse, all [][][]int) {
	t.Helper()
	sure, e1 := trains.Sure(h)
	told, e2 := trains.Told(h)
	if sure != inTime(h, all, h.Trains, nil) || !slices.Equal(told, wantTold(h, all)) || e1+e2 != api.OK {
		t.Errorf("%d: %v: Sure = %v, %d; Told = %v, %d, want %v", i, h, sure, e1, told, e2, wantTold(h, all))
	}
	for train := range h.Trains {
		want, some := wantWait(h, all, train)
		if n, e := trains.Wait(h, train); n != want || some != (e == api.OK) || !some && e != api.ErrNone {
			t.Errorf("%d: Wait(%v, %d) = %d, %d, want %d", i, h, train, n, e, want)
		}
	}
	want, some := wantSpare(h, all)
	if n, e := trains.Spare(h); n != want || some != (e == api.OK) || !some && e != api.ErrNone {
		t.Errorf("%d: Spare(%v) = %d, %d, want %d", i, h, n, e, want)
	}
}

// TestLargest asks about houses as large as they can be.
func TestLargest(t *testing.T) {
	late := largest(99, 99, 99, 99)
	told, e := trains.Told(late)
	if !slices.Equal(told, list(0, 1, 2, 3)) || e != api.OK {
		t.Errorf("Told = %v, %d", told, e)
	}
	checks.Expect(t, "largest", api.ErrNone, wait(late, 0), spare(late))
	// If a machine stops one of the others has three bundles, of which two are of one edition: they take 81 minutes, and one Change.
	for i, x := range []struct{ minute, change, spare int }{{99, 9, 9}, {99, 8, 10}, {99, 0, 18}, {90, 9, 0}} {
		h := largest(x.minute, x.minute, x.minute, x.minute)
		h.Machines, h.Change = slices.Repeat([]api.TrainMachine{machine(0, 3, 1)}, 3), x.change
		if n, e := trains.Spare(h); n != x.spare || e != api.OK {
			t.Errorf("%d: Spare = %d, %d, want %d", i, n, e, x.spare)
		}
	}
	short := largest(89, 89, 89, 89)
	short.Machines = slices.Repeat([]api.TrainMachine{machine(0, 3, 1)}, 3)
	checks.Expect(t, "a minute less", api.ErrNone, spare(short))
	if n, e := trains.Wait(short, 0); n != 1 || e != api.OK {
		t.Errorf("Wait = %d, %d", n, e)
	}
}

// R2 to R4: TestMemory looks for memory that is shared or changed, and for what one call leaves to the next one.
func TestMemory(t *testing.T) {
	// Each list of the house and the plan has memory behind it that a call might write to.
	h, plan := houseH(), lists(list(2), list(0))
	h.Machines, h.Bundles, h.Trains = slices.Grow(h.Machines, 4), slices.Grow(h.Bundles, 4), slices.Grow(h.Trains, 4)
	for on, l := range plan {
		plan[on] = slices.Grow(l, 4)
	}
	calls := []func() ([]int, api.Errno){
		func() ([]int, api.Errno) { return trains.Times(h, plan) },
		func() ([]int, api.Errno) { return trains.Late(h, plan) },
		func() ([]int, api.Errno) { return trains.Told(h) },
	}
	plans := []func() ([][]int, api.Errno){
		func() ([][]int, api.Errno) { return trains.Plan(h) },
		func() ([][]int, api.Errno) { return trains.Without(h, 1) },
	}
	for range 2 {
		unlisted(h)
		good(h, plan)
		wait(h, 0)
		wait(h, 1)
		for i, want := range lists(list(17, -1, 10), list(0, 1), list(0)) {
			l, e := calls[i]()
			if !slices.Equal(l, want) || e != api.OK {
				t.Errorf("%d: %v, %d, want %v", i, l, e, want)
			}
			checks.Spoil(l, -7)
		}
		for i, want := range [][][]int{lists(list(0), list(1, 2)), lists(list(0, 1, 2), nil)} {
			p, e := plans[i]()
			if !equal(p, want) || e != api.OK {
				t.Errorf("%d: %v, %d, want %v", i, p, e, want)
			}
			checks.Spoil(p[0], -7)
			if !slices.Equal(p[1], want[1]) {
				t.Errorf("two lists share memory: %v", p)
			}
			checks.Spoil(p[1], -7)
			clear(p[:cap(p)])
		}
		if !checks.SameHouse(h, houseH()) || !equal(plan, lists(list(2), list(0))) {
			t.Fatalf("an argument was changed: %v, %v", h, plan)
		}
		for _, l := range append(plan, h.Trains) {
			if behind := l[len(l):cap(l)]; slices.Max(behind) != 0 || slices.Min(behind) != 0 {
				t.Fatalf("what is behind an argument was changed: %v", behind)
			}
		}
	}
}
