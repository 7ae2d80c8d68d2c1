package copies_test

import (
	"math"
	"reflect"
	"slices"
	"testing"

	"flong/api"
	"flong/checks"
	"flong/copies"
)

const most, least = math.MaxInt, math.MinInt

func holds(r api.CopyRun, x api.CopyTruth) checks.Answer {
	ok, e := copies.Holds(r, x)
	return checks.Said("Holds", e, !ok)
}

// ofMachine returns the answers of the calls that have a machine, or a machine and a plate.
func ofMachine(r api.CopyRun, machine, plate int) []checks.Answer {
	s, e1 := copies.When(r, machine, plate)
	k, e2 := copies.Mixed(r, machine)
	return []checks.Answer{checks.Said("When", e1, s == api.Span{}), checks.Said("Mixed", e2, k == 0)}
}

// ofPlate returns the answer of the call that has a plate.
func ofPlate(r api.CopyRun, plate int) checks.Answer {
	s, e := copies.Old(r, plate)
	return checks.Said("Old", e, s == api.Span{})
}

// ofCopy returns the answers of the calls that have a copy, or a copy and another one.
func ofCopy(r api.CopyRun, one, other int) []checks.Answer {
	l, e1 := copies.Where(r, one)
	k, e2 := copies.Same(r, one, other)
	m, e3 := copies.Same(r, other, one)
	return []checks.Answer{checks.Said("Where", e1, len(l) == 0), checks.Said("Same", e2, k == 0), checks.Said("Same", e3, m == 0)}
}

// shown returns the answer of the call that has a copy and a plate.
func shown(r api.CopyRun, found, plate int) checks.Answer {
	k, e := copies.Read(r, found, plate)
	return checks.Said("Read", e, k == 0)
}

// unlisted returns the answers of the calls that have nothing but a run, but for Check.
func unlisted(r api.CopyRun) []checks.Answer {
	x, e1 := copies.Truth(r)
	n, e2 := copies.Fewest(r)
	s, e3 := copies.Mixes(r)
	i, e4 := copies.Seek(r)
	return []checks.Answer{
		checks.Said("Truth", e1, len(x.Minutes)+len(x.From) == 0), checks.Said("Fewest", e2, n == 0), checks.Said("Mixes", e3, s == api.Span{}), checks.Said("Seek", e4, i == 0),
	}
}

// P6.1
func TestCheckValid(t *testing.T) {
	for i, r := range []api.CopyRun{
		runR(), runQ(), runL(), runN(), run(1, machines(machine(0, span(0, 0)))), run(30, machines(machine(9, span(30, 30)))),
		run(1, machines(machine(0, span(0, 1))), found(0, list(0), list(0)), found(0, list(1), list(0)), found(0, list(-1), list(0))),
	} {
		if e := copies.Check(r); e != api.OK {
			t.Errorf("%d: Check(%v) = %d", i, r, e)
		}
	}
}

// invalid has runs that are not valid, each by one number or one length.
func invalid() []api.CopyRun {
	var runs []api.CopyRun
	add := func(change func(r *api.CopyRun, n int), numbers ...int) {
		for _, n := range numbers {
			runs = append(runs, withR(func(r *api.CopyRun) { change(r, n) }))
		}
	}
	add(func(r *api.CopyRun, n int) { r.Plates = n }, 0, 1, 3, 4, -1, most, least)
	add(func(r *api.CopyRun, n int) { r.Last = n }, 0, 8, 31, -1, most, least)
	add(func(r *api.CopyRun, n int) { r.Machines = slices.Repeat(r.Machines[:1], n) }, 0, 1, 4, 1000)
	add(func(r *api.CopyRun, n int) { r.Found = slices.Repeat(r.Found[:1], n) }, 7, 8, 1000)
	for i := range 2 {
		add(func(r *api.CopyRun, n int) { r.Machines[i].Rate = n }, -1, 10, most, least)
		add(func(r *api.CopyRun, n int) { r.Machines[i].Changes = slices.Repeat([]api.Span{span(4, 5)}, n) }, 0, 1, 3, 4, 1000)
		for plate := range 2 {
			add(func(r *api.CopyRun, n int) { r.Machines[i].Changes[plate].Low = n }, -1, 10, most, least)
			add(func(r *api.CopyRun, n int) { r.Machines[i].Changes[plate].High = n }, -1, 11, 31, most, least)
			add(func(r *api.CopyRun, n int) { r.Machines[i].Changes[plate] = span(n, n-1) }, 1, 5, 10, 11)
			add(func(r *api.CopyRun, n int) { r.Machines[i].Changes[plate] = span(n, n) }, -1, 11)
		}
	}
	for i := range 3 {
		add(func(r *api.CopyRun, n int) { r.Found[i].Minute = n }, -1, 10, 11, most, least)
		add(func(r *api.CopyRun, n int) { r.Found[i].New = slices.Repeat(list(-1), n) }, 0, 1, 3, 4, 1000)
		add(func(r *api.CopyRun, n int) { r.Found[i].New[n%2] = -2 }, 0, 1)
		add(func(r *api.CopyRun, n int) { r.Found[i].New[1] = n }, 2, most, least)
		add(func(r *api.CopyRun, n int) { r.Found[i].From = list(n) }, -1, 2, 3, most, least)
		add(func(r *api.CopyRun, n int) { r.Found[i].From = list(0, n) }, -1, 0, 2, most, least)
		add(func(r *api.CopyRun, n int) { r.Found[i].From = list(1, n) }, 0, 1)
		add(func(r *api.CopyRun, n int) { r.Found[i].From = slices.Repeat(list(1), n) }, 0, 3, 1000)
	}
	return runs
}

// someNumbers has numbers of things that R has, and of things that no run has.
func someNumbers() []int { return list(0, 1, 2, -1, 3, 6, 999, most, least) }

// P1 and P6.1, and ErrCopy ahead of all other errors
func TestCheckInvalid(t *testing.T) {
	for _, r := range append(invalid(), api.CopyRun{}) {
		checks.Expect(t, r, api.ErrCopy, checks.Said("Check", copies.Check(r), true))
		checks.Expect(t, r, api.ErrCopy, unlisted(r)...)
		for _, x := range []api.CopyTruth{{}, {Minutes: lists(list(4, 5), list(4, 5)), From: list(0, 0, 0)}, {Minutes: lists(nil, nil), From: list(most)}} {
			checks.Expect(t, r, api.ErrCopy, holds(r, x))
		}
		for _, n := range someNumbers() {
			checks.Expect(t, r, api.ErrCopy, ofPlate(r, n))
			for _, k := range someNumbers() {
				checks.Expect(t, r, api.ErrCopy, ofMachine(r, n, k)...)
				checks.Expect(t, r, api.ErrCopy, ofCopy(r, n, k)...)
				checks.Expect(t, r, api.ErrCopy, shown(r, n, k))
			}
		}
	}
}

// P1, and ErrArg, also ahead of ErrNone
func TestNotOfTheRun(t *testing.T) {
	for _, r := range []api.CopyRun{runR(), runN()} {
		for _, n := range []int{-1, 3, 4, 6, 999, most, least} {
			checks.Expect(t, n, api.ErrArg, ofPlate(r, n))
			checks.Expect(t, n, api.ErrArg, ofMachine(r, n, 0)...)
			checks.Expect(t, n, api.ErrArg, ofMachine(r, 0, n)[0], ofMachine(r, n, n)[0], shown(r, n, 0), shown(r, 0, n), shown(r, n, n))
			checks.Expect(t, n, api.ErrArg, ofCopy(r, n, 0)...)
			checks.Expect(t, n, api.ErrArg, ofCopy(r, n, n)...)
		}
		// What is too much by 1: there is a copy more than there are machines and plates.
		checks.Expect(t, r, api.ErrArg, ofPlate(r, 2), ofMachine(r, 0, 2)[0], shown(r, 0, 2))
		checks.Expect(t, r, api.ErrArg, ofMachine(r, 2, 0)...)
		checks.Expect(t, r, api.ErrArg, ofCopy(r, len(r.Found), 0)...)
		checks.Expect(t, r, api.ErrArg, shown(r, len(r.Found), 0))
	}
	bare := withR(func(r *api.CopyRun) { r.Found = nil })
	checks.Expect(t, "no copies", api.ErrArg, ofCopy(bare, 0, 0)...)
	checks.Expect(t, "no copies", api.ErrArg, shown(bare, 0, 0))
}

// ErrNone, if there is no truth
func TestNoTruth(t *testing.T) {
	old := func(minute int) api.CopyFound { return found(minute, list(0), list(0)) }
	one := machines(machine(1, span(2, 4)))
	for _, r := range []api.CopyRun{
		runN(), run(9, one, old(4)), run(9, one, found(1, list(1), list(0))), run(9, one, old(3), found(3, list(1), list(0))), run(9, one, old(3), found(2, list(1), list(0))),
	} {
		checks.Expect(t, r, api.OK, checks.Said("Check", copies.Check(r), true), holds(r, api.CopyTruth{}), holds(r, api.CopyTruth{Minutes: lists(list(4)), From: list(0)}))
		checks.Expect(t, r, api.ErrNone, unlisted(r)...)
		for n := range r.Machines {
			checks.Expect(t, r, api.ErrNone, ofMachine(r, n, 0)...)
		}
		for n := range r.Found {
			checks.Expect(t, r, api.ErrNone, ofCopy(r, n, 0)...)
			checks.Expect(t, r, api.ErrNone, shown(r, n, 0))
		}
		checks.Expect(t, r, api.ErrNone, ofPlate(r, 0))
	}
	// In these there is one.
	for _, r := range []api.CopyRun{run(9, one, old(3)), run(9, one, found(2, list(1), list(0))), run(9, one, old(2), found(3, list(1), list(0)))} {
		checks.ExpectNot(t, r, api.ErrNone, unlisted(r)[:3]...)
	}
}

// P6.2
func TestHolds(t *testing.T) {
	for i, x := range []struct {
		minutes [][]int
		from    []int
		want    bool
	}{
		{lists(list(4, 5), list(4, 0)), list(0, 0, 0), true}, {lists(list(4, 6), list(9, 9)), list(0, 0, 0), true}, {lists(list(4, 8), list(4, 5)), list(0, 1, 0), true},
		{lists(list(5, 2), list(4, 6)), list(1, 0, 0), true}, {lists(list(5, 8), list(4, 5)), list(1, 1, 0), true},
		// A copy shows what it cannot, just so.
		{lists(list(5, 5), list(4, 0)), list(0, 0, 0), false}, {lists(list(4, 4), list(4, 0)), list(0, 0, 0), false}, {lists(list(4, 7), list(4, 0)), list(0, 0, 0), false},
		{lists(list(3, 5), list(4, 0)), list(0, 0, 0), false}, {lists(list(4, 5), list(4, 0)), list(1, 0, 0), false}, {lists(list(5, 8), list(5, 5)), list(1, 1, 0), false},
		// A minute is not within the changes.
		{lists(list(4, 5), list(3, 0)), list(0, 0, 0), false}, {lists(list(4, 5), list(10, 0)), list(0, 0, 0), false}, {lists(list(4, 5), list(4, -1)), list(0, 0, 0), false},
		{lists(list(4, 5), list(4, most)), list(0, 0, 0), false}, {lists(list(4, 5), list(least, 0)), list(0, 0, 0), false},
		// A machine is none of From, or none of the run.
		{lists(list(4, 5), list(4, 4)), list(0, 0, 1), false}, {lists(list(4, 5), list(4, 0)), list(0, 2, 0), false}, {lists(list(4, 5), list(4, 0)), list(0, -1, 0), false},
		{lists(list(4, 5), list(4, 0)), list(0, most, 0), false}, {lists(list(4, 5), list(4, 0)), list(least, 0, 0), false},
		// There are too few or too many.
		{nil, nil, false}, {lists(list(4, 5), list(4, 0)), nil, false}, {nil, list(0, 0, 0), false}, {lists(list(4, 5)), list(0, 0, 0), false},
		{lists(list(4, 5), list(4, 0), list(4, 0)), list(0, 0, 0), false}, {lists(list(4, 5), nil), list(0, 0, 0), false}, {lists(list(4, 5), list(4)), list(0, 0, 0), false},
		{lists(list(4), list(4, 0)), list(0, 0, 0), false}, {lists(list(4, 5, 0), list(4, 0)), list(0, 0, 0), false}, {lists(list(4, 5), list(4, 0)), list(0, 0), false},
		{lists(list(4, 5), list(4, 0)), list(0, 0, 0, 0), false}, {slices.Repeat(lists(list(4, 5)), 1000), slices.Repeat(list(0), 1000), false},
	} {
		ok, e := copies.Holds(runR(), api.CopyTruth{Minutes: x.minutes, From: x.from})
		if ok != x.want || e != api.OK {
			t.Errorf("%d: Holds(%v, %v) = %v, %d", i, x.minutes, x.from, ok, e)
		}
	}
	// A plate can be changed in the minute Last, which no copy shows.
	if ok, e := copies.Holds(run(3, machines(machine(1, span(0, 3))), found(2, list(0), list(0))), api.CopyTruth{Minutes: lists(list(3)), From: list(0)}); !ok || e != api.OK {
		t.Errorf("Holds of a plate that was not changed = %v, %d", ok, e)
	}
}

// P6.2: TestEachTruthHolds looks at all lists of numbers that are a truth, or nearly one.
func TestEachTruthHolds(t *testing.T) {
	for _, x := range someRuns(40, size{1, 2, 2, 3, 3}) {
		r := x.run
		all := truths(r)
		ends := changed(r, func(r *api.CopyRun) {
			for plate := range r.Plates {
				r.Machines[0].Changes[plate] = span(-1, r.Last+1)
			}
		})
		many := 0
		for _, minutes := range wantMinutes(ends) {
			for _, from := range lists(slices.Repeat(list(0), len(r.Found)), slices.Repeat(list(1), len(r.Found)), slices.Repeat(list(0), len(r.Found)+1)) {
				y := api.CopyTruth{Minutes: minutes, From: from}
				ok, e := copies.Holds(r, y)
				is := slices.ContainsFunc(all, func(z api.CopyTruth) bool { return reflect.DeepEqual(z.Minutes, minutes) && slices.Equal(z.From, from) })
				if ok != is || e != api.OK {
					t.Fatalf("Holds(%v, %v) = %v, %d", r, y, ok, e)
				}
				if is {
					many++
				}
			}
		}
		// Without copies From is as empty for one machine as for the other one.
		if many < len(all) {
			t.Fatalf("%v: %d truths of %d", r, many, len(all))
		}
	}
}

// P6.4 and P6.9
func TestWhenAndMixed(t *testing.T) {
	const surely, never, perhaps = api.Surely, api.Never, api.Perhaps
	for i, x := range []struct {
		r     api.CopyRun
		when  [][]api.Span // of each machine and plate
		mixed []int
	}{
		{runR(), [][]api.Span{{span(4, 5), span(2, 8)}, {span(4, 9), span(0, 9)}}, list(perhaps, perhaps)},
		{runQ(), [][]api.Span{{span(4, 4), span(5, 8)}, {span(7, 9), span(0, 6)}}, list(surely, surely)},
		{runL(), slices.Repeat([][]api.Span{{span(0, 30), span(0, 30), span(0, 30)}}, 3), list(perhaps, perhaps, perhaps)},
		// A copy shows the old plate in the minute before that of the change at the latest, and the new one from it on.
		{run(9, machines(machine(0, span(0, 9))), found(4, list(1), list(0))), [][]api.Span{{span(0, 4)}}, list(never)},
		{run(9, machines(machine(0, span(0, 9))), found(4, list(0), list(0))), [][]api.Span{{span(5, 9)}}, list(never)},
		{run(9, machines(machine(0, span(0, 9))), found(4, list(-1), list(0))), [][]api.Span{{span(0, 9)}}, list(never)},
		{run(9, machines(machine(0, span(0, 9))), found(3, list(0), list(0)), found(4, list(1), list(0))), [][]api.Span{{span(4, 4)}}, list(never)},
		{run(9, machines(machine(0, span(0, 9))), found(8, list(0), list(0))), [][]api.Span{{span(9, 9)}}, list(never)},
		{run(9, machines(machine(0, span(0, 9))), found(0, list(1), list(0))), [][]api.Span{{span(0, 0)}}, list(never)},
		// A copy that is from one of two machines says nothing of either.
		{run(9, machines(machine(1, span(0, 9)), machine(1, span(0, 9))), found(4, list(1), list(0, 1))), [][]api.Span{{span(0, 9)}, {span(0, 9)}}, list(never, never)},
		{run(9, machines(machine(1, span(0, 9)), machine(1, span(5, 9))), found(4, list(1), list(0, 1))), [][]api.Span{{span(0, 4)}, {span(5, 9)}}, list(never, never)},
		// One of the machines changed its plate by minute 3, the other one after 6: the ends are those of both ways.
		{
			run(9, machines(machine(1, span(1, 8)), machine(1, span(2, 9))), found(3, list(1), list(0, 1)), found(6, list(0), list(0, 1))),
			[][]api.Span{{span(1, 8)}, {span(2, 9)}}, list(never, never),
		},
		// The rate says nothing, and a machine that changed all plates at once does not mix.
		{run(9, machines(machine(0, span(3, 3), span(4, 4))), found(0, list(-1, -1), list(0))), [][]api.Span{{span(3, 3), span(4, 4)}}, list(surely)},
		{run(9, machines(machine(9, span(3, 3), span(3, 3)))), [][]api.Span{{span(3, 3), span(3, 3)}}, list(never)},
		{run(9, machines(machine(9, span(3, 4), span(3, 4)))), [][]api.Span{{span(3, 4), span(3, 4)}}, list(perhaps)},
		{run(9, machines(machine(9, span(3, 4), span(4, 5), span(4, 4)))), [][]api.Span{{span(3, 4), span(4, 5), span(4, 4)}}, list(perhaps)},
		{run(9, machines(machine(9, span(3, 4), span(4, 5), span(5, 6)))), [][]api.Span{{span(3, 4), span(4, 5), span(5, 6)}}, list(surely)},
		// Not changed in the run, or ahead of its first minute.
		{run(9, machines(machine(9, span(9, 9), span(9, 9)), machine(9, span(0, 0), span(0, 0)))), [][]api.Span{{span(9, 9), span(9, 9)}, {span(0, 0), span(0, 0)}}, list(never, never)},
		{run(9, machines(machine(9, span(0, 0), span(9, 9)), machine(9, span(9, 9), span(8, 8)))), [][]api.Span{{span(0, 0), span(9, 9)}, {span(9, 9), span(8, 8)}}, list(surely, surely)},
	} {
		for machine, spans := range x.when {
			for plate, want := range spans {
				if s, e := copies.When(x.r, machine, plate); s != want || e != api.OK {
					t.Errorf("%d: When(%d, %d) = %v, %d, want %v", i, machine, plate, s, e, want)
				}
			}
			if k, e := copies.Mixed(x.r, machine); k != x.mixed[machine] || e != api.OK {
				t.Errorf("%d: Mixed(%d) = %d, %d, want %d", i, machine, k, e, x.mixed[machine])
			}
		}
	}
}

// apart is a run with two machines of which all is known, but from which machine some copies are: the one changed its plate in minute 2, the other one in minute 6.
func apart(l ...api.CopyFound) api.CopyRun {
	return run(9, machines(machine(1, span(2, 2)), machine(1, span(6, 6))), l...)
}

// P6.5 to P6.7, P6.11 and P6.12
func TestCopies(t *testing.T) {
	const surely, never, perhaps = api.Surely, api.Never, api.Perhaps
	both := list(0, 1)
	cross := run(9, slices.Repeat(machines(machine(1, span(0, 9))), 3), found(3, list(1), list(0, 1, 2)), found(3, list(0), list(0, 1, 2)), found(5, list(0), list(0, 1)), found(5, list(1), list(0, 2)))
	for i, x := range []struct {
		r      api.CopyRun
		where  [][]int
		same   [][]int
		fewest int
		seek   int // -1: none
		read   [][]int
	}{
		{
			runR(), lists(both, both, list(0)), lists(list(surely, perhaps, perhaps), list(perhaps, surely, perhaps), list(perhaps, perhaps, surely)), 1, 0,
			lists(list(surely, never), list(perhaps, surely), list(never, perhaps)),
		},
		{
			runQ(), lists(list(0), list(1), list(0)), lists(list(surely, never, surely), list(never, surely, never), list(surely, never, surely)), 2, -1,
			lists(list(surely, never), list(never, surely), list(never, never)),
		},
		{withR(func(r *api.CopyRun) { r.Found = nil }), nil, nil, 0, -1, nil},
		{
			runL(), slices.Repeat(lists(list(0, 1, 2)), 6),
			lists(
				list(1, 3, 3, 3, 3, 3), list(3, 1, 3, 3, 3, 3), list(3, 3, 1, 3, 3, 3), list(3, 3, 3, 1, 3, 3), list(3, 3, 3, 3, 1, 3), list(3, 3, 3, 3, 3, 1),
			), 1, 0, slices.Repeat(lists(list(perhaps, perhaps, perhaps)), 6),
		},
		// What a copy shows says from which machine it is, between the minutes of both changes.
		{apart(found(1, list(0), both), found(6, list(1), both)), lists(both, both), lists(list(surely, perhaps), list(perhaps, surely)), 1, 0, lists(list(never), list(surely))},
		{apart(found(2, list(0), both), found(5, list(1), both)), lists(list(1), list(0)), lists(list(surely, never), list(never, surely)), 2, -1, lists(list(never), list(surely))},
		{apart(found(5, list(0), both), found(2, list(0), both)), lists(list(1), list(1)), lists(list(surely, surely), list(surely, surely)), 1, -1, lists(list(never), list(never))},
		{apart(found(2, list(-1), both), found(2, list(0), both)), lists(both, list(1)), lists(list(surely, perhaps), list(perhaps, surely)), 1, 0, lists(list(perhaps), list(never))},
		{apart(found(2, list(-1), list(1)), found(2, list(-1), list(0))), lists(list(1), list(0)), lists(list(surely, never), list(never, surely)), 2, -1, lists(list(never), list(surely))},
		// Of those that cannot be of the same machine, each can be of more than one.
		{cross, lists(list(0, 1, 2), list(0, 1, 2), list(0, 1), list(0, 2)), lists(list(1, 2, 2, 3), list(2, 1, 3, 3), list(2, 3, 1, 2), list(3, 3, 2, 1)), 2, 0, lists(list(surely), list(never), list(never), list(surely))},
	} {
		n, e1 := copies.Fewest(x.r)
		found, e2 := copies.Seek(x.r)
		if n != x.fewest || e1 != api.OK || x.seek >= 0 && (found != x.seek || e2 != api.OK) || x.seek < 0 && (found != 0 || e2 != api.ErrNone) {
			t.Errorf("%d: Fewest = %d, %d, want %d; Seek = %d, %d, want %d", i, n, e1, x.fewest, found, e2, x.seek)
		}
		for one := range x.r.Found {
			if l, e := copies.Where(x.r, one); !slices.Equal(l, x.where[one]) || e != api.OK {
				t.Errorf("%d: Where(%d) = %v, %d, want %v", i, one, l, e, x.where[one])
			}
			for other, want := range x.same[one] {
				if k, e := copies.Same(x.r, one, other); k != want || e != api.OK {
					t.Errorf("%d: Same(%d, %d) = %d, %d, want %d", i, one, other, k, e, want)
				}
			}
			for plate, want := range x.read[one] {
				if k, e := copies.Read(x.r, one, plate); k != want || e != api.OK {
					t.Errorf("%d: Read(%d, %d) = %d, %d, want %d", i, one, plate, k, e, want)
				}
			}
		}
	}
}

// P6.7
func TestFewestOfThree(t *testing.T) {
	all := list(0, 1, 2)
	r := run(9, slices.Repeat(machines(machine(1, span(0, 9), span(0, 9))), 3), found(4, list(0, 0), all), found(4, list(0, 1), all), found(4, list(1, 0), all))
	if n, e := copies.Fewest(r); n != 3 || e != api.OK {
		t.Errorf("Fewest = %d, %d, want 3", n, e)
	}
	r.Found = append(r.Found, found(4, list(1, 1), all))
	checks.Expect(t, r, api.ErrNone, unlisted(r)...)
}

// P6.8 and P6.10
func TestOldAndMixes(t *testing.T) {
	for i, x := range []struct {
		r     api.CopyRun
		old   []api.Span
		mixes api.Span
	}{
		{runR(), []api.Span{span(32, 57), span(15, 63)}, span(3, 57)},
		{runQ(), []api.Span{span(47, 57), span(15, 54)}, span(8, 57)},
		{runL(), slices.Repeat([]api.Span{span(0, 810)}, 3), span(0, 810)},
		{run(1, machines(machine(0, span(0, 1)))), []api.Span{span(0, 0)}, span(0, 0)},
		// One plate does not mix.
		{run(9, machines(machine(2, span(0, 9)), machine(3, span(2, 4)))), []api.Span{span(6, 30)}, span(0, 0)},
		// A plate that was changed in the minute Last was not changed, one that was in the first minute was from the start.
		{run(9, machines(machine(2, span(9, 9), span(0, 0)))), []api.Span{span(18, 18), span(0, 0)}, span(18, 18)},
		{run(9, machines(machine(2, span(9, 9), span(9, 9)))), []api.Span{span(18, 18), span(18, 18)}, span(0, 0)},
		// Changes that are apart, that meet and that overlap.
		{run(9, machines(machine(1, span(1, 3), span(5, 8)))), []api.Span{span(1, 3), span(5, 8)}, span(2, 7)},
		{run(9, machines(machine(1, span(5, 8), span(1, 5)))), []api.Span{span(5, 8), span(1, 5)}, span(0, 7)},
		{run(9, machines(machine(1, span(1, 8), span(3, 4)))), []api.Span{span(1, 8), span(3, 4)}, span(0, 5)},
		{run(9, machines(machine(1, span(4, 4), span(1, 8)))), []api.Span{span(4, 4), span(1, 8)}, span(0, 4)},
		{run(9, machines(machine(1, span(0, 9), span(4, 4), span(4, 4)))), []api.Span{span(0, 9), span(4, 4), span(4, 4)}, span(0, 5)},
		// A copy mixes once, be it two plates of three or one.
		{run(9, machines(machine(1, span(1, 1), span(3, 3), span(7, 7)))), []api.Span{span(1, 1), span(3, 3), span(7, 7)}, span(6, 6)},
		// If one machine mixes the other one does not: which one it is, is not known.
		{
			run(9, machines(machine(1, span(0, 0), span(0, 9)), machine(5, span(0, 0), span(0, 9))), found(8, list(-1, 0), list(0, 1)), found(0, list(-1, 1), list(0, 1))),
			[]api.Span{span(0, 0), span(9, 45)}, span(9, 45),
		},
	} {
		for plate, want := range x.old {
			if s, e := copies.Old(x.r, plate); s != want || e != api.OK {
				t.Errorf("%d: Old(%d) = %v, %d, want %v", i, plate, s, e, want)
			}
		}
		if s, e := copies.Mixes(x.r); s != x.mixes || e != api.OK {
			t.Errorf("%d: Mixes = %v, %d, want %v", i, s, e, x.mixes)
		}
	}
}

// P6.11
func TestSeek(t *testing.T) {
	// The later the second plate is changed the more copies of the machine 0 mix, and the fewer ones of the machine 1. So it helps to know which of them had it still, and nothing else does.
	l := machines(machine(1, span(0, 0), span(0, 9)), machine(1, span(9, 9), span(0, 9)))
	empty, old := found(5, list(-1, -1), list(0, 1)), found(5, list(-1, 0), list(0, 1))
	sure := found(5, list(-1, 0), list(1))
	for i, x := range []struct {
		r    api.CopyRun
		want int
	}{
		{run(10, l, empty, old), 1}, {run(10, l, old, empty), 0}, {run(10, l, old, old), 0}, {run(10, l, empty, old, old), 1}, {run(10, l, empty, empty), 0},
		{run(10, l, sure, empty, old), 1}, {run(10, l, sure, old, empty), 1}, {run(10, l, sure, empty), 1},
	} {
		if found, e := copies.Seek(x.r); found != x.want || e != api.OK {
			t.Errorf("%d: Seek = %d, %d, want %d", i, found, e, x.want)
		}
	}
	// Once it is known which of two copies is from the machine that prints, all is.
	l = machines(machine(1, span(0, 0), span(0, 1)), machine(0, span(0, 0), span(0, 1)))
	both := list(0, 1)
	if found, e := copies.Seek(run(1, l, found(0, list(-1, -1), both), found(0, list(-1, 1), both), found(0, list(-1, 0), both))); found != 1 || e != api.OK {
		t.Errorf("Seek = %d, %d, want 1", found, e)
	}
	// From has two machines, but the copy is from one of them only.
	one := run(10, machines(machine(1, span(0, 0), span(0, 9)), machine(1, span(9, 9), span(0, 9))), found(5, list(1, 0), list(0, 1)))
	checks.Expect(t, one, api.ErrNone, unlisted(one)[3])
	checks.Expect(t, one, api.ErrNone, unlisted(run(10, l))[3], unlisted(run(10, l, sure))[3])
}

// P6.2 to P6.12: TestAllCalls holds each call against what the chapter says word by word.
func TestAllCalls(t *testing.T) {
	all := append(someRuns(600, small), someRuns(150, three)...)
	none, sought := 0, 0
	for i, x := range append(all, told{runR(), api.CopyTruth{}}, told{runQ(), api.CopyTruth{}}) {
		runs := clearer(x.run)
		for _, r := range append(runs[:min(5, len(runs))], x.run) {
			all := truths(r)
			if len(all) == 0 {
				checks.Expect(t, r, api.ErrNone, unlisted(r)...)
				none++
				continue
			}
			checkRun(t, i, r, all)
			checkCopies(t, i, r, all)
			if checkSeek(t, i, r, all) {
				sought++
			}
		}
	}
	if none < 200 || sought < 200 {
		t.Errorf("only in %d runs there was no truth; only in %d a copy to be sought", none, sought)
	}
}

func checkRun(t *testing.T, i int, r api.CopyRun, all []api.CopyTruth) {
	t.Helper()
	x, e := copies.Truth(r)
	if ok, e2 := copies.Holds(r, x); !ok || e2+e != api.OK || !slices.ContainsFunc(all, func(y api.CopyTruth) bool {
		return reflect.DeepEqual(x.Minutes, y.Minutes) && slices.Equal(x.From, y.From)
	}) {
		t.Errorf("%d: %v: Truth = %v, %d", i, r, x, e)
	}
	for machine := range r.Machines {
		want := wantKnown(all, func(x api.CopyTruth) bool { return len(wantMixing(r, x, machine)) > 0 })
		if k, e := copies.Mixed(r, machine); k != want || e != api.OK {
			t.Errorf("%d: Mixed(%v, %d) = %d, %d, want %d", i, r, machine, k, e, want)
		}
		for plate := range r.Plates {
			want := over(all, func(x api.CopyTruth) int { return x.Minutes[machine][plate] })
			if s, e := copies.When(r, machine, plate); s != want || e != api.OK {
				t.Errorf("%d: When(%v, %d, %d) = %v, %d, want %v", i, r, machine, plate, s, e, want)
			}
		}
	}
	for plate := range r.Plates {
		want := over(all, func(x api.CopyTruth) int { return wantOld(r, x, plate) })
		if s, e := copies.Old(r, plate); s != want || e != api.OK {
			t.Errorf("%d: Old(%v, %d) = %v, %d, want %v", i, r, plate, s, e, want)
		}
	}
	want := over(all, func(x api.CopyTruth) int { return wantMixes(r, x) })
	if s, e := copies.Mixes(r); s != want || e != api.OK {
		t.Errorf("%d: Mixes(%v) = %v, %d, want %v", i, r, s, e, want)
	}
	fewest := over(all, wantFrom).Low
	if n, e := copies.Fewest(r); n != fewest || e != api.OK {
		t.Errorf("%d: Fewest(%v) = %d, %d, want %d", i, r, n, e, fewest)
	}
}

func checkCopies(t *testing.T, i int, r api.CopyRun, all []api.CopyTruth) {
	t.Helper()
	for one, f := range r.Found {
		where := wantWhere(r, all, one)
		if l, e := copies.Where(r, one); !slices.Equal(l, where) || e != api.OK {
			t.Errorf("%d: Where(%v, %d) = %v, %d, want %v", i, r, one, l, e, where)
		}
		for other := range r.Found {
			want := wantKnown(all, func(x api.CopyTruth) bool { return x.From[one] == x.From[other] })
			if k, e := copies.Same(r, one, other); k != want || e != api.OK {
				t.Errorf("%d: Same(%v, %d, %d) = %d, %d, want %d", i, r, one, other, k, e, want)
			}
		}
		for plate := range r.Plates {
			want := wantKnown(all, func(x api.CopyTruth) bool { return wantShown(x.Minutes[x.From[one]][plate], f.Minute) == 1 })
			if k, e := copies.Read(r, one, plate); k != want || e != api.OK {
				t.Errorf("%d: Read(%v, %d, %d) = %d, %d, want %d", i, r, one, plate, k, e, want)
			}
		}
	}
}

// checkSeek reports whether there is a copy that should be sought.
func checkSeek(t *testing.T, i int, r api.CopyRun, all []api.CopyTruth) bool {
	t.Helper()
	want := wantSeek(r, all)
	if found, e := copies.Seek(r); want >= 0 && (found != want || e != api.OK) || want < 0 && (found != 0 || e != api.ErrNone) {
		t.Errorf("%d: Seek(%v) = %d, %d, want %d", i, r, found, e, want)
	}
	return want > 0
}

// R2 to R4: TestMemory looks for memory that is shared or changed, and for what one call leaves to the next one.
func TestMemory(t *testing.T) {
	// Each list has memory behind it that a call might write to.
	r := runR()
	r.Machines, r.Found = slices.Grow(r.Machines, 4), slices.Grow(r.Found, 4)
	for i, m := range r.Machines {
		r.Machines[i].Changes = slices.Grow(m.Changes, 4)
	}
	for i, f := range r.Found {
		r.Found[i] = found(f.Minute, slices.Grow(f.New, 4), slices.Grow(f.From, 4))
	}
	truth := api.CopyTruth{Minutes: slices.Grow(lists(list(4, 5), list(4, 0)), 4), From: slices.Grow(list(0, 0, 0), 4)}
	for range 2 {
		checks.ExpectNot(t, r, api.ErrCopy, append(unlisted(r), holds(r, truth))...)
		for n := range 2 {
			checks.ExpectNot(t, r, api.ErrCopy, append(ofMachine(r, n, n), ofPlate(r, n), shown(r, n, n))...)
			checks.ExpectNot(t, r, api.ErrCopy, ofCopy(r, n, 1-n)...)
		}
		l, e1 := copies.Where(r, 1)
		x, e2 := copies.Truth(r)
		ok, e3 := copies.Holds(r, x)
		if !slices.Equal(l, list(0, 1)) || !ok || e1+e2+e3 != api.OK {
			t.Errorf("Where = %v, %d; Truth = %v, %d; Holds = %v, %d", l, e1, x, e2, ok, e3)
		}
		checkApart(t, append(lists(l, x.From), x.Minutes...))
		if !reflect.DeepEqual(r, runR()) || !reflect.DeepEqual(truth, api.CopyTruth{Minutes: lists(list(4, 5), list(4, 0)), From: list(0, 0, 0)}) {
			t.Fatalf("an argument was changed: %v, %v", r, truth)
		}
		for i, f := range r.Found {
			behind := append(slices.Clone(f.New[2:cap(f.New)]), f.From[len(f.From):cap(f.From)]...)
			if slices.Max(behind) != 0 || slices.Min(behind) != 0 {
				t.Fatalf("what is behind the lists of the copy %d was changed: %v", i, behind)
			}
		}
	}
}

// checkApart writes to all lists, and checks that they share no memory.
func checkApart(t *testing.T, all [][]int) {
	t.Helper()
	for i, l := range all {
		l = l[:cap(l)]
		for n := range l {
			l[n] = -7 - i
		}
	}
	for i, l := range all {
		for _, n := range l {
			if n != -7-i {
				t.Errorf("the lists share memory: %v", all)
			}
		}
	}
}

// R3
func TestNilAndEmpty(t *testing.T) {
	r := run(9, machines(machine(1, span(1, 3))))
	empty := changed(r, func(r *api.CopyRun) { r.Found = []api.CopyFound{} })
	for _, r := range []api.CopyRun{r, empty} {
		for _, from := range lists(nil, list()) {
			if ok, e := copies.Holds(r, api.CopyTruth{Minutes: lists(list(2)), From: from}); !ok || e != api.OK {
				t.Errorf("Holds = %v, %d", ok, e)
			}
		}
		if n, e := copies.Fewest(r); n != 0 || e != api.OK {
			t.Errorf("Fewest = %d, %d", n, e)
		}
	}
}
