package tallies_test

import (
	"math"
	"reflect"
	"slices"
	"testing"

	"flong/api"
	"flong/checks"
	"flong/tallies"
)

const most, least = math.MaxInt, math.MinInt

func good(b api.TallyBook, l []int) checks.Answer {
	ok, e := tallies.Good(b, l)
	return checks.Said("Good", e, !ok)
}

func clash(b api.TallyBook, one, other int) checks.Answer {
	n, e := tallies.Clash(b, one, other)
	return checks.Said("Clash", e, n == 0)
}

// ofBook returns the answers of the calls that have a book alone, but for Ask.
func ofBook(b api.TallyBook) []checks.Answer {
	n, e1 := tallies.False(b)
	m, e2 := tallies.Stories(b)
	l, e3 := tallies.Blame(b)
	set, e4 := tallies.Left(b)
	return []checks.Answer{
		checks.Said("Check", tallies.Check(b), true), checks.Said("False", e1, n == 0), checks.Said("Stories", e2, m == 0), checks.Said("Blame", e3, len(l) == 0), checks.Said("Left", e4, len(set) == 0),
	}
}

func ask(b api.TallyBook) checks.Answer {
	n, e := tallies.Ask(b)
	return checks.Said("Ask", e, n == 0)
}

func lies(b api.TallyBook, tally int) checks.Answer {
	n, e := tallies.Lies(b, tally)
	return checks.Said("Lies", e, n == 0)
}

func honest(b api.TallyBook, boy int) checks.Answer {
	n, e := tallies.Honest(b, boy)
	return checks.Said("Honest", e, n == 0)
}

func ofPage(b api.TallyBook, page int) checks.Answer {
	s, e := tallies.Plates(b, page)
	return checks.Said("Plates", e, s == api.Span{})
}

func ready(b api.TallyBook, machine, edition, minute int) checks.Answer {
	n, e := tallies.Ready(b, machine, edition, minute)
	return checks.Said("Ready", e, n == 0)
}

// P11.1
func TestCheckValid(t *testing.T) {
	for i, b := range []api.TallyBook{
		bookB(), bookC(), bare(), scarce(), largest(),
		withB(func(b *api.TallyBook) { b.Walk = list(0, 20) }), withB(func(b *api.TallyBook) { b.Boys = 4 }), withB(func(b *api.TallyBook) { b.Set = nil }),
		withB(func(b *api.TallyBook) { b.Tallies[0] = said(1, 3, 1, 99)[0] }), withB(func(b *api.TallyBook) { b.Tallies[0] = said(0, 0, 0, 0)[0] }),
		withB(func(b *api.TallyBook) { b.Tallies = slices.Repeat(b.Tallies[:1], 8) }), withB(func(b *api.TallyBook) { b.Set = plates(0, 0, 9, 3, 2, 9) }),
		withB(func(b *api.TallyBook) { b.Boys, b.Tallies = 0, nil }), withB(func(b *api.TallyBook) { b.Hall.Editions = append(b.Hall.Editions, nil, list(3)) }),
	} {
		if e := tallies.Check(b); e != api.OK {
			t.Errorf("%d: Check(%v) = %d", i, b, e)
		}
	}
}

// invalid has books that are not valid, each by one number or one length.
func invalid() []api.TallyBook {
	var books []api.TallyBook
	add := func(change func(b *api.TallyBook, n int), numbers ...int) {
		for _, n := range numbers {
			books = append(books, withB(func(b *api.TallyBook) { change(b, n) }))
		}
	}
	for i := range bookB().Tallies {
		add(func(b *api.TallyBook, n int) { b.Tallies[i].Boy = n }, -1, 2, 3, 4, most, least)
		add(func(b *api.TallyBook, n int) { b.Tallies[i].Page = n }, -1, 4, 5, most, least)
		add(func(b *api.TallyBook, n int) { b.Tallies[i].Machine = n }, -1, 2, 3, most, least)
		add(func(b *api.TallyBook, n int) { b.Tallies[i].Minute = n }, -1, 100, 101, most, least)
	}
	for i := range bookB().Set {
		add(func(b *api.TallyBook, n int) { b.Set[i].Page = n }, -1, 4, most, least)
		add(func(b *api.TallyBook, n int) { b.Set[i].Bore = n }, -1, 3, most, least)
		add(func(b *api.TallyBook, n int) { b.Set[i].Many = n }, 0, -1, 10, most, least)
	}
	for i := range bookB().Walk {
		add(func(b *api.TallyBook, n int) { b.Walk[i] = n }, -1, 21, 22, most, least)
		add(func(b *api.TallyBook, n int) { b.Hall.Bores[i] = n }, -1, 3, most, least)
		add(func(b *api.TallyBook, n int) { b.Hall.House.Machines[i].Pace = n }, 0, 10)
		add(func(b *api.TallyBook, n int) { b.Hall.House.Trains[i] = n }, -1, 100)
		add(func(b *api.TallyBook, n int) { b.Hall.House.Bundles[i].Edition = n }, -1, 2, 4)
		add(func(b *api.TallyBook, n int) { b.Hall.Editions[i][1] = n }, -1, 0, 4)
	}
	// Plates that are out of order, or there twice.
	add(func(b *api.TallyBook, n int) { b.Set[n], b.Set[n+1] = b.Set[n+1], b.Set[n] }, 0, 1, 2)
	add(func(b *api.TallyBook, n int) { b.Set = slices.Insert(b.Set, n, b.Set[n]) }, 0, 1, 2, 3)
	add(func(b *api.TallyBook, n int) { b.Set = slices.Repeat(b.Set, n) }, 2, 1000)
	// There are no boys, or fewer than tallies are of, or too many.
	add(func(b *api.TallyBook, n int) { b.Boys = n }, 0, 1, -1, 5, 6, most, least)
	add(func(b *api.TallyBook, n int) { b.Boys, b.Tallies = n, nil }, -1, 5, most, least)
	add(func(b *api.TallyBook, n int) { b.Walk = make([]int, n) }, 0, 1, 3, 4, 1000)
	add(func(b *api.TallyBook, n int) { b.Hall.Bores, b.Walk = make([]int, n), make([]int, n) }, 0, 1, 3)
	add(func(b *api.TallyBook, n int) { b.Tallies = slices.Repeat(b.Tallies[:1], n) }, 9, 10, 1000)
	add(func(b *api.TallyBook, n int) { b.Hall.House.Change = n }, -1, 10)
	return append(books, api.TallyBook{}, api.TallyBook{Walk: list(0)})
}

// someNumbers has numbers of things that B has, and of those that no book has.
func someNumbers() []int { return list(0, 1, 3, 4, -1, 5, 8, 999, most, least) }

// P1 and P11.1, and ErrTally ahead of all other errors
func TestCheckInvalid(t *testing.T) {
	for _, b := range invalid() {
		checks.Expect(t, b, api.ErrTally, append(ofBook(b), ask(b))...)
		for _, l := range lists(nil, list(0), list(0, 1, 2, 3, 4), list(1, 0), list(-1), list(most), slices.Repeat(list(0), 1000)) {
			checks.Expect(t, b, api.ErrTally, good(b, l))
		}
		for _, n := range someNumbers() {
			checks.Expect(t, b, api.ErrTally, lies(b, n), honest(b, n), ofPage(b, n), ready(b, n, 0, 0), ready(b, 0, n, 0), ready(b, 0, 0, n), ready(b, n, n, n))
			for _, k := range someNumbers() {
				checks.Expect(t, b, api.ErrTally, clash(b, n, k))
			}
		}
	}
}

// P1, and ErrArg, also ahead of ErrNone
func TestNotOfTheBook(t *testing.T) {
	b := bookB()
	for _, n := range list(-1, 5, 6, 8, 999, most, least) {
		checks.Expect(t, n, api.ErrArg, lies(b, n), clash(b, n, 0), clash(b, 0, n), clash(b, 4, n), clash(b, n, n), good(b, list(n)), good(b, list(0, n)), good(b, list(n, 4)), good(b, list(0, 1, 2, 3, 4, n)))
	}
	for _, l := range lists(list(0, 0), list(1, 0), list(1, 2, 2), list(4, 3), list(0, 2, 1), list(1, 2, 3, 4, 4), slices.Repeat(list(0), 1000)) {
		checks.Expect(t, l, api.ErrArg, good(b, l))
	}
	for _, n := range list(-1, 2, 3, 4, 999, most, least) {
		checks.Expect(t, n, api.ErrArg, honest(b, n), ready(b, n, 0, 0), ready(b, 0, n, 0), ready(b, n, n, 0))
	}
	for _, n := range list(-1, 4, 5, 999, most, least) {
		checks.Expect(t, n, api.ErrArg, ofPage(b, n))
	}
	for _, n := range list(-1, 100, 101, 999, most, least) {
		checks.Expect(t, n, api.ErrArg, ready(b, 0, 0, n), ready(b, 1, 1, n))
	}
	checks.Expect(t, "nothing", api.ErrArg, lies(bare(), 0), clash(bare(), 0, 0), good(bare(), list(0)), honest(bare(), 0), ready(bare(), 0, 0, 0), ready(bare(), 1, 0, 0))
	// A tally that C has not got, a boy without tallies, and an edition without bundles.
	checks.Expect(t, "C", api.ErrArg, lies(bookC(), 4), clash(bookC(), 4, 0), good(bookC(), list(4)))
	more := withB(func(b *api.TallyBook) { b.Boys, b.Hall.Editions = 3, append(b.Hall.Editions, list(3)) })
	checks.Expect(t, more, api.ErrArg, honest(more, 3), ready(more, 0, 3, 0))
	checks.ExpectNot(t, more, api.ErrArg, honest(more, 2), ready(more, 0, 2, 0))
}

// P11.2
func TestGood(t *testing.T) {
	b, s := bookB(), scarce()
	soon := func(minute int) api.TallyBook {
		return withB(func(b *api.TallyBook) { b.Tallies = append(b.Tallies[2:4], said(1, 0, 0, minute)...) })
	}
	for i, x := range []struct {
		b    api.TallyBook
		l    []int
		want bool
	}{
		{b, list(1, 2, 3, 4), true}, {b, list(0, 1), false}, {b, nil, true}, {b, list(0), true}, {b, list(0, 2, 3), true}, {b, list(0, 4), false}, {b, list(0, 1, 2, 3, 4), false}, {bare(), nil, true},
		// There are two machines, so the way to one and that to the other are 8 minutes together.
		{soon(14), list(0, 2), true}, {soon(13), list(0, 2), false}, {soon(8), list(1, 2), true}, {soon(9), list(1, 2), false}, {soon(24), list(1, 2), true}, {soon(23), list(1, 2), false},
		// All two of three are two of the same boy, not only those that follow each other.
		{withB(func(b *api.TallyBook) { b.Tallies[2].Boy, b.Tallies[2].Minute = 0, 25 }), list(0, 2, 4), false},
		// As many plates as there are, and one more.
		{s, list(0), true}, {s, list(0, 1), false}, {s, list(0, 2), false}, {s, list(1, 2), false}, {s, list(3, 4), true}, {s, list(3, 4, 5), false}, {s, list(0, 4, 5), true}, {s, list(1, 3, 4, 5), false},
		// Plates of another bore do not fit.
		{changed(s, func(b *api.TallyBook) { b.Hall.Bores[1] = 0 }), list(0, 1), true}, {changed(s, func(b *api.TallyBook) { b.Hall.Bores[1] = 2 }), list(1), false},
		{withB(func(b *api.TallyBook) { b.Set = b.Set[1:] }), list(0), false}, {withB(func(b *api.TallyBook) { b.Set = b.Set[1:] }), list(1, 2, 3), true}, {withB(func(b *api.TallyBook) { b.Set = nil }), nil, true},
		// A boy needs no time only where there is no way.
		{saying(s, said(0, 0, 0, 5, 0, 1, 1, 5, 0, 1, 2, 5)), list(0, 1, 2), true}, {saying(b, said(0, 0, 0, 5, 0, 0, 1, 5)), list(0, 1), false}, {saying(b, said(0, 0, 0, 5, 1, 0, 1, 5)), list(0, 1), true},
		// Two boys can bring no two plates of one page to one machine.
		{saying(withB(func(b *api.TallyBook) { b.Set[0].Many = 9 }), said(0, 0, 0, 5, 1, 0, 0, 50)), list(0, 1), false},
	} {
		if ok, e := tallies.Good(x.b, x.l); ok != x.want || e != api.OK {
			t.Errorf("%d: Good(%v) = %v, %d", i, x.l, ok, e)
		}
	}
}

// P11.3
func TestClash(t *testing.T) {
	const boy, twice, few = api.TallyBoy, api.TallyTwice, api.TallyPlates
	b, s := bookB(), scarce()
	poor := withB(func(b *api.TallyBook) { b.Set = plates(0, 1, 1, 1, 0, 1) })
	for i, x := range []struct {
		b          api.TallyBook
		one, other int
		want       int // 0: they can be true together
	}{
		{b, 0, 1, boy}, {b, 0, 4, twice}, {b, 1, 4, 0}, {b, 2, 3, 0}, {b, 0, 2, 0}, {b, 0, 3, 0}, {s, 0, 1, few}, {s, 0, 3, 0}, {s, 4, 5, 0}, {s, 3, 5, 0}, {s, 0, 2, few},
		// One of both has no plate, or each of them.
		{poor, 0, 2, few}, {poor, 1, 2, 0}, {poor, 3, 4, few}, {poor, 1, 3, few},
		// The first reason: there are too few plates, too.
		{poor, 0, 1, boy}, {poor, 0, 4, twice}, {saying(b, said(0, 0, 0, 5, 0, 0, 0, 10)), 0, 1, boy}, {saying(b, said(0, 0, 0, 5, 0, 0, 0, 11)), 0, 1, twice}, {saying(b, said(0, 0, 0, 5, 1, 0, 0, 5)), 0, 1, twice},
		// The same minute does where there is no way, but not twice.
		{saying(s, said(0, 0, 0, 5, 0, 1, 1, 5)), 0, 1, 0}, {saying(s, said(0, 1, 1, 5, 0, 1, 1, 5)), 0, 1, twice},
		// A tally alone is neither too soon nor twice.
		{b, 0, 0, 0}, {b, 4, 4, 0}, {poor, 0, 0, few}, {poor, 1, 1, 0}, {s, 2, 2, 0}, {largest(), 7, 7, 0}, {largest(), 0, 7, boy},
	} {
		for _, two := range lists(list(x.one, x.other), list(x.other, x.one)) {
			why, e := tallies.Clash(x.b, two[0], two[1])
			if x.want != 0 && (why != x.want || e != api.OK) || x.want == 0 && (why != 0 || e != api.ErrNone) {
				t.Errorf("%d: Clash%v = %d, %d, want %d", i, two, why, e, x.want)
			}
		}
	}
}

// P11.4 to P11.9 and P11.11
func TestStories(t *testing.T) {
	const surely, never, perhaps, none = api.Surely, api.Never, api.Perhaps, -1
	poor := withB(func(b *api.TallyBook) { b.Set = nil })
	// 0 clashes with 1, 1 with 2, and 3 with 4.
	chain := saying(bookB(), said(0, 0, 0, 0, 0, 1, 0, 5, 0, 2, 1, 12, 1, 0, 1, 50, 1, 0, 1, 80))
	for i, x := range []struct {
		b       api.TallyBook
		stories [][]int
		lies    []int // of each tally
		honest  []int // of each boy
		ask     int
		left    []api.MachinePlate
	}{
		{bookB(), lists(list(0)), list(surely, never, never, never, never), list(never, surely), none, nil},
		{bookC(), lists(list(0), list(1)), list(perhaps, perhaps, never, never), list(never, surely), 0, plates(0, 0, 1)},
		{bare(), lists(nil), nil, nil, none, nil}, {changed(bare(), func(b *api.TallyBook) { b.Set, b.Boys = plates(1, 2, 3), 2 }), lists(nil), nil, list(surely, surely), none, plates(1, 2, 3)},
		// Without plates all is false.
		{poor, lists(list(0, 1, 2, 3, 4)), list(surely, surely, surely, surely, surely), list(never, never), none, nil},
		// Two of the first three are false, and one of the others; each tally leaves 6 stories or 3.
		{
			scarce(), lists(list(0, 1, 3), list(0, 1, 4), list(0, 1, 5), list(0, 2, 3), list(0, 2, 4), list(0, 2, 5), list(1, 2, 3), list(1, 2, 4), list(1, 2, 5)),
			list(perhaps, perhaps, perhaps, perhaps, perhaps, perhaps), list(perhaps, perhaps, perhaps, surely), 0, plates(0, 0, 9),
		},
		// One of eight is true: each tally is in seven stories.
		{
			largest(), lists(list(0, 1, 2, 3, 4, 5, 6), list(0, 1, 2, 3, 4, 5, 7), list(0, 1, 2, 3, 4, 6, 7), list(0, 1, 2, 3, 5, 6, 7), list(0, 1, 2, 4, 5, 6, 7), list(0, 1, 3, 4, 5, 6, 7), list(0, 2, 3, 4, 5, 6, 7), list(1, 2, 3, 4, 5, 6, 7)),
			slices.Repeat(list(perhaps), 8), list(surely, surely, surely, never), 0, plates(0, 2, 9, 1, 2, 9, 2, 2, 9, 3, 2, 8),
		},
		// Of three in a row the middle one is false, not both others; of the two behind it one is, and only these are to be asked.
		{chain, lists(list(1, 3), list(1, 4)), list(never, surely, never, perhaps, perhaps), list(never, never), 3, plates(1, 0, 1)},
		// Each tally halves the stories.
		{
			changed(scarce(), func(b *api.TallyBook) { b.Set, b.Tallies = plates(0, 1, 1, 1, 1, 1), b.Tallies[1:5] }), lists(list(0, 2), list(0, 3), list(1, 2), list(1, 3)),
			list(perhaps, perhaps, perhaps, perhaps), list(perhaps, perhaps, perhaps, surely), 0, nil,
		},
		// Of three of one kind and two of another one it is better to ask for one of the two.
		{
			changed(scarce(), func(b *api.TallyBook) { b.Set, b.Tallies = plates(0, 1, 1, 1, 1, 1), b.Tallies[:5] }), lists(list(0, 1, 3), list(0, 1, 4), list(0, 2, 3), list(0, 2, 4), list(1, 2, 3), list(1, 2, 4)),
			list(perhaps, perhaps, perhaps, perhaps, perhaps), list(perhaps, perhaps, perhaps, surely), 3, nil,
		},
	} {
		checkStories(t, i, x.b, x.stories)
		for tally, want := range x.lies {
			if k, e := tallies.Lies(x.b, tally); k != want || e != api.OK {
				t.Errorf("%d: Lies(%d) = %d, %d, want %d", i, tally, k, e, want)
			}
		}
		for boy, want := range x.honest {
			if k, e := tallies.Honest(x.b, boy); k != want || e != api.OK {
				t.Errorf("%d: Honest(%d) = %d, %d, want %d", i, boy, k, e, want)
			}
		}
		checkAsk(t, i, x.b, x.ask)
		if set, e := tallies.Left(x.b); !slices.Equal(set, x.left) || e != api.OK {
			t.Errorf("%d: Left = %v, %d, want %v", i, set, e, x.left)
		}
	}
}

// checkStories checks the calls that say how many stories there are, and of how many tallies, and which is the least.
func checkStories(t *testing.T, i int, b api.TallyBook, want [][]int) {
	t.Helper()
	n, e1 := tallies.False(b)
	m, e2 := tallies.Stories(b)
	l, e3 := tallies.Blame(b)
	if n != len(want[0]) || m != len(want) || !slices.Equal(l, want[0]) || e1+e2+e3 != api.OK {
		t.Errorf("%d: %v: False = %d, %d; Stories = %d, %d; Blame = %v, %d, want %v", i, b, n, e1, m, e2, l, e3, want)
	}
}

// checkAsk checks which tally is asked for: -1 is none.
func checkAsk(t *testing.T, i int, b api.TallyBook, want int) {
	t.Helper()
	if tally, e := tallies.Ask(b); want >= 0 && (tally != want || e != api.OK) || want < 0 && (tally != 0 || e != api.ErrNone) {
		t.Errorf("%d: %v: Ask = %d, %d, want %d", i, b, tally, e, want)
	}
}

// P11.10
func TestPlates(t *testing.T) {
	span := func(low, high int) api.Span { return api.Span{Low: low, High: high} }
	for i, x := range []struct {
		b    api.TallyBook
		want []api.Span // of each page
	}{
		{bookB(), []api.Span{span(2, 2), span(1, 1), span(1, 1), {}}}, {bookC(), []api.Span{span(1, 2), span(0, 1), span(1, 1), {}}}, {bare(), make([]api.Span, 4)},
		{withB(func(b *api.TallyBook) { b.Set = nil }), make([]api.Span, 4)}, {scarce(), []api.Span{span(1, 1), span(2, 2), {}, {}}}, {largest(), slices.Repeat([]api.Span{span(0, 1)}, 4)},
		// Plates of all bores and machines together.
		{changed(scarce(), func(b *api.TallyBook) { b.Hall.Bores[1] = 0 }), []api.Span{span(2, 2), span(2, 2), {}, {}}},
	} {
		for page, want := range x.want {
			if s, e := tallies.Plates(x.b, page); s != want || e != api.OK {
				t.Errorf("%d: Plates(%d) = %v, %d, want %v", i, page, s, e, want)
			}
		}
	}
}

// P11.12
func TestReady(t *testing.T) {
	const surely, never, perhaps = api.Surely, api.Never, api.Perhaps
	b, c, s := bookB(), bookC(), scarce()
	// Whichever of two tallies is true the machine had the plate at 20; at 10 only if the first one is.
	either := saying(b, said(0, 0, 0, 10, 1, 0, 0, 20))
	either.Hall.Editions = lists(list(0), list(0, 1))
	for i, x := range []struct {
		b                        api.TallyBook
		machine, edition, minute int
		want                     int
	}{
		{b, 0, 0, 20, surely}, {b, 0, 0, 19, never}, {b, 1, 1, 16, surely}, {c, 0, 0, 99, never}, {c, 1, 1, 15, never}, {c, 1, 1, 16, surely}, {b, 0, 0, 99, surely}, {b, 0, 0, 0, never},
		// The pages of one edition at one machine are not those of the other one.
		{b, 0, 1, 99, never}, {b, 1, 0, 99, never},
		{either, 0, 0, 9, never}, {either, 0, 0, 10, perhaps}, {either, 0, 0, 19, perhaps}, {either, 0, 0, 20, surely}, {either, 0, 1, 99, never}, {either, 1, 0, 99, never},
		{s, 0, 0, 0, never}, {s, 0, 0, 1, perhaps}, {s, 1, 0, 1, never}, {s, 1, 0, 2, perhaps}, {s, 2, 0, 99, perhaps}, {s, 0, 1, 3, never}, {s, 0, 1, 4, perhaps}, {s, 2, 1, 99, perhaps},
		// An edition without pages.
		{s, 0, 2, 0, surely}, {s, 2, 2, 99, surely}, {largest(), 0, 0, 99, never}, {largest(), 1, 0, 99, never},
	} {
		if k, e := tallies.Ready(x.b, x.machine, x.edition, x.minute); k != x.want || e != api.OK {
			t.Errorf("%d: Ready(%d, %d, %d) = %d, %d, want %d", i, x.machine, x.edition, x.minute, k, e, x.want)
		}
	}
}

// P11.2 to P11.12: TestAllCalls holds each call against what the chapter says word by word.
func TestAllCalls(t *testing.T) {
	seen := map[int]int{}
	for i, b := range append(someBooks(1500, 6), someBooks(150, 8)...) {
		stories := wantStories(b)
		checkTogether(t, i, b)
		checkStories(t, i, b, stories)
		checkKnown(t, i, b, stories)
		want := -1
		if len(stories) > 1 {
			want = wantAsk(b, stories)
		}
		checkAsk(t, i, b, want)
		checkPlates(t, i, b, stories)
		seen[min(len(stories), 3)]++
	}
	for many := 1; many <= 3; many++ {
		if seen[many] < 200 {
			t.Errorf("only %v books had so many stories", seen)
		}
	}
}

// checkTogether checks the calls that say whether tallies can be true together.
func checkTogether(t *testing.T, i int, b api.TallyBook) {
	t.Helper()
	for _, l := range checks.Subsets(len(b.Tallies)) {
		if ok, e := tallies.Good(b, l); ok != wantGood(b, l) || e != api.OK {
			t.Errorf("%d: %v: Good(%v) = %v, %d", i, b, l, ok, e)
		}
	}
	for one := range b.Tallies {
		for other := range b.Tallies {
			want := wantClash(b, one, other)
			if why, e := tallies.Clash(b, one, other); why != want || (e == api.OK) != (want != 0) || want == 0 && e != api.ErrNone {
				t.Errorf("%d: %v: Clash(%d, %d) = %d, %d, want %d", i, b, one, other, why, e, want)
			}
		}
	}
}

// checkKnown checks the calls that say what is known.
func checkKnown(t *testing.T, i int, b api.TallyBook, stories [][]int) {
	t.Helper()
	for tally := range b.Tallies {
		if k, e := tallies.Lies(b, tally); k != wantLies(stories, tally) || e != api.OK {
			t.Errorf("%d: %v: Lies(%d) = %d, %d", i, b, tally, k, e)
		}
	}
	for boy := range b.Boys {
		if k, e := tallies.Honest(b, boy); k != wantHonest(b, stories, boy) || e != api.OK {
			t.Errorf("%d: %v: Honest(%d) = %d, %d", i, b, boy, k, e)
		}
	}
	for machine := range b.Hall.Bores {
		for edition := range b.Hall.Editions {
			for _, minute := range minutesOf(b) {
				want := wantReady(b, stories, machine, edition, minute)
				if k, e := tallies.Ready(b, machine, edition, minute); k != want || e != api.OK {
					t.Errorf("%d: %v: Ready(%d, %d, %d) = %d, %d, want %d", i, b, machine, edition, minute, k, e, want)
				}
			}
		}
	}
}

// minutesOf returns all minutes that can matter, ascending: those of the tallies, each with the one before it, and the ends.
func minutesOf(b api.TallyBook) []int {
	l := list(0, api.MaxTallyMinute)
	for _, x := range b.Tallies {
		l = append(l, x.Minute, max(0, x.Minute-1))
	}
	slices.Sort(l)
	return slices.Compact(l)
}

// checkPlates checks the calls that say which plates were brought, and which were not.
func checkPlates(t *testing.T, i int, b api.TallyBook, stories [][]int) {
	t.Helper()
	for page := range api.MaxMachinePages {
		want := wantPlates(b, stories, page)
		if s, e := tallies.Plates(b, page); s != want || e != api.OK {
			t.Errorf("%d: %v: Plates(%d) = %v, %d, want %v", i, b, page, s, e, want)
		}
	}
	want := wantLeft(b, stories[0])
	if set, e := tallies.Left(b); !slices.Equal(set, want) || e != api.OK {
		t.Errorf("%d: %v: Left = %v, %d, want %v", i, b, set, e, want)
	}
}

// R2 to R4: TestMemory looks for memory that is shared or changed, and for what one call leaves to the next one.
func TestMemory(t *testing.T) {
	// The lists have memory behind them that a call might write to.
	b := withB(func(b *api.TallyBook) { b.Set = plates(0, 0, 1, 0, 1, 1, 1, 0, 2, 2, 1, 1) })
	was := changed(b, func(*api.TallyBook) {})
	b.Set, b.Walk, b.Tallies = slices.Grow(b.Set, 8), slices.Grow(b.Walk, 4), slices.Grow(b.Tallies, 8)
	b.Hall.Editions[0] = slices.Grow(b.Hall.Editions[0], 4)
	given := append(slices.Grow(list(), 8), 1, 2, 3, 4)
	for range 2 {
		checks.ExpectNot(t, b, api.ErrTally, append(ofBook(b), ask(b), good(b, given), clash(b, 0, 1), ofPage(b, 0))...)
		for n := range 2 {
			checks.ExpectNot(t, b, api.ErrTally, lies(b, n), honest(b, n), ready(b, n, n, n))
		}
		l, e1 := tallies.Blame(b)
		set, e2 := tallies.Left(b)
		if !slices.Equal(l, list(0)) || !slices.Equal(set, plates(1, 0, 1)) || e1+e2 != api.OK {
			t.Errorf("Blame = %v, %d; Left = %v, %d", l, e1, set, e2)
		}
		checks.Spoil(l, -7)
		checks.Spoil(set, api.MachinePlate{Page: -7})
		if !reflect.DeepEqual(b, was) || !slices.Equal(given, list(1, 2, 3, 4)) {
			t.Fatalf("an argument was changed: %v, %v", b, given)
		}
		if !checks.Clean(b.Set) || !checks.Clean(b.Walk) || !checks.Clean(b.Tallies) || !checks.Clean(b.Hall.Editions[0]) || !checks.Clean(given) {
			t.Fatal("what is behind an argument was changed")
		}
	}
	// All of the Set is left.
	idle := withB(func(b *api.TallyBook) { b.Tallies = nil })
	set, e := tallies.Left(idle)
	if !slices.Equal(set, bookB().Set) || e != api.OK {
		t.Errorf("Left = %v, %d", set, e)
	}
	checks.Spoil(set, api.MachinePlate{Page: -7})
	if !slices.Equal(idle.Set, bookB().Set) {
		t.Error("Left shares memory with the Set")
	}
}

// R3
func TestNilAndEmpty(t *testing.T) {
	empty := api.TallyBook{Hall: hall(list(2), lists()...), Set: []api.MachinePlate{}, Walk: list(0), Tallies: []api.Tally{}}
	for _, b := range []api.TallyBook{bare(), empty} {
		if n, e := tallies.Stories(b); n != 1 || e != api.OK {
			t.Errorf("Stories = %d, %d", n, e)
		}
		for _, l := range lists(nil, list()) {
			if ok, e := tallies.Good(b, l); !ok || e != api.OK {
				t.Errorf("Good = %v, %d", ok, e)
			}
		}
		answers := ofBook(b)
		checks.Expect(t, b, api.OK, append(slices.Delete(answers, 2, 3), ofPage(b, 0))...)
		checks.Expect(t, b, api.ErrNone, ask(b))
	}
	for _, none := range lists(nil, list()) {
		checks.Expect(t, none, api.ErrTally, ofBook(withB(func(b *api.TallyBook) { b.Walk = none }))...)
		b := withB(func(b *api.TallyBook) { b.Hall.Editions[0] = none })
		if k, e := tallies.Ready(b, 1, 0, 0); k != api.Surely || e != api.OK {
			t.Errorf("Ready of an edition without pages = %d, %d", k, e)
		}
	}
}
