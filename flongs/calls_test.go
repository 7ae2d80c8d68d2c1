package flongs_test

import (
	"math"
	"slices"
	"testing"

	"flong/api"
	"flong/checks"
	"flong/flongs"
)

const most, least = math.MaxInt, math.MinInt

// listed returns the answers of the calls that have shares, but for Good.
func listed(s api.FlongShop, shares []int) []checks.Answer {
	k, e1 := flongs.Holds(s, shares)
	c, e2 := flongs.Chance(s, shares)
	f, e3 := flongs.Fails(s, shares)
	return []checks.Answer{checks.Said("Holds", e1, k == 0), checks.Said("Chance", e2, c == api.Ratio{}), checks.Said("Fails", e3, len(f) == 0)}
}

// unlisted returns the answers of the calls that have nothing but a shop and need a world that agrees.
func unlisted(s api.FlongShop) []checks.Answer {
	n, e1 := flongs.New(s)
	d, e2 := flongs.Divide(s)
	b, e3 := flongs.Bold(s)
	m, e4 := flongs.Test(s)
	return []checks.Answer{checks.Said("New", e1, n == 0), checks.Said("Divide", e2, len(d) == 0), checks.Said("Bold", e3, len(b) == 0), checks.Said("Test", e4, m == 0)}
}

func agrees(s api.FlongShop, world int) checks.Answer {
	ok, e := flongs.Agrees(s, world)
	return checks.Said("Agrees", e, !ok)
}

func worlds(s api.FlongShop) checks.Answer {
	l, e := flongs.Worlds(s)
	return checks.Said("Worlds", e, len(l) == 0)
}

func good(s api.FlongShop, shares []int) checks.Answer {
	ok, e := flongs.Good(s, shares)
	return checks.Said("Good", e, !ok)
}

func left(s api.FlongShop, mould int) checks.Answer {
	l, e := flongs.Left(s, mould)
	return checks.Said("Left", e, l == api.Span{})
}

func sure(s api.FlongShop, page int) checks.Answer {
	n, e := flongs.Sure(s, page)
	return checks.Said("Sure", e, n == 0)
}

// P2.1
func TestCheckValid(t *testing.T) {
	for i, s := range []api.FlongShop{
		shopS(), shopT(), {Fresh: 1}, {Fresh: 12}, {Worlds: make([][]int, 6), Fresh: 1}, {Worlds: [][]int{{}, nil}, Fresh: 1}, {Wants: list(0, 12, 0), Fresh: 1},
		withS(func(s *api.FlongShop) { s.Worlds = nil }), withS(func(s *api.FlongShop) { s.Worlds[0] = list(0, 0, 12, 12) }),
		withS(func(s *api.FlongShop) { s.Worlds = append(s.Worlds, s.Worlds[0], s.Worlds[0]) }),
		withS(func(s *api.FlongShop) { s.Moulds[2] = mould(0, 12, 1) }), withS(func(s *api.FlongShop) { s.Moulds[2] = mould(0, 0, 0) }),
		{Moulds: []api.FlongMould{mould(0, 0, 0), mould(1, 12, 1), mould(2, 12, 0), mould(2, 0, 1), mould(0, 3, 0)}, Worlds: [][]int{{0, 12, 0, 12, 1}}, Wants: list(12, 12, 12), Fresh: 12},
	} {
		if e := flongs.Check(s); e != api.OK {
			t.Errorf("%d: Check(%v) = %d", i, s, e)
		}
	}
}

// invalid has shops that are not valid, each by one number or one length.
func invalid() []api.FlongShop {
	var shops []api.FlongShop
	add := func(change func(s *api.FlongShop, n int), numbers ...int) {
		for _, n := range numbers {
			shops = append(shops, withS(func(s *api.FlongShop) { change(s, n) }))
		}
	}
	for page := range 2 {
		add(func(s *api.FlongShop, n int) { s.Wants[page] = n }, -1, 13, most, least)
	}
	for i := range 4 {
		add(func(s *api.FlongShop, n int) { s.Moulds[i].Page = n }, -1, 2, most, least)
		add(func(s *api.FlongShop, n int) { s.Moulds[i].Used = n }, -1, 13, most, least)
		add(func(s *api.FlongShop, n int) { s.Moulds[i].Broke = n }, -1, 2, most, least)
		for world := range 4 {
			add(func(s *api.FlongShop, n int) { s.Worlds[world][i] = n }, -1, 13, most, least)
		}
	}
	for world := range 4 {
		add(func(s *api.FlongShop, n int) { s.Worlds[world] = make([]int, n) }, 0, 1, 3, 5, 1000)
	}
	add(func(s *api.FlongShop, n int) { s.Fresh = n }, 0, -1, 13, most, least)
	add(func(s *api.FlongShop, n int) { s.Wants = make([]int, n) }, 0, 1, 4, 1000)
	add(func(s *api.FlongShop, n int) { s.Worlds = slices.Repeat(s.Worlds[:1], n) }, 7, 1000)
	add(func(s *api.FlongShop, n int) {
		s.Moulds, s.Worlds = make([]api.FlongMould, n), [][]int{make([]int, n)}
	}, 6, 1000)
	return append(shops, api.FlongShop{}, api.FlongShop{Moulds: make([]api.FlongMould, 1), Fresh: 1}, api.FlongShop{Worlds: [][]int{{0}}, Fresh: 1})
}

// P1 and P2.1, and ErrFlong ahead of all other errors
func TestCheckInvalid(t *testing.T) {
	for _, s := range invalid() {
		checks.Expect(t, s, api.ErrFlong, checks.Said("Check", flongs.Check(s), true), worlds(s))
		checks.Expect(t, s, api.ErrFlong, unlisted(s)...)
		for _, shares := range [][]int{list(0, 0, 0, 0), nil, list(-1), list(most, least, most, least)} {
			checks.Expect(t, s, api.ErrFlong, good(s, shares))
			checks.Expect(t, s, api.ErrFlong, listed(s, shares)...)
		}
		for _, n := range []int{0, -1, 100, most, least} {
			checks.Expect(t, s, api.ErrFlong, agrees(s, n), left(s, n), sure(s, n))
		}
	}
}

// P1, P2.2, P2.5, P2.6 and P2.8 to P2.10: ErrArg, also ahead of ErrNone
func TestNotOfTheShop(t *testing.T) {
	for _, s := range []api.FlongShop{shopS(), withS(func(s *api.FlongShop) { s.Moulds[2].Used = 3 })} {
		for _, n := range []int{-1, 4, most, least} {
			checks.Expect(t, n, api.ErrArg, agrees(s, n), left(s, n), sure(s, n))
		}
		checks.Expect(t, 2, api.ErrArg, sure(s, 2))
		for _, shares := range notShares() {
			checks.Expect(t, shares, api.ErrArg, listed(s, shares)...)
		}
	}
	empty := api.FlongShop{Fresh: 1}
	checks.Expect(t, "nothing", api.ErrArg, agrees(empty, 0), left(empty, 0), sure(empty, 0))
	checks.Expect(t, "nothing", api.ErrArg, listed(empty, list(0))...)
}

// notShares has lists that are no shares of S.
func notShares() [][]int {
	return [][]int{
		nil, list(), list(0), list(0, 0, 0), list(0, 0, 0, 0, 0), list(0, 0, 1, 0), list(0, 0, 12, 0), list(0, 0, -1, 0),
		list(-1, 0, 0, 0), list(0, -1, 0, 0), list(0, 0, 0, -1), list(13, 0, 0, 0), list(0, 13, 0, 0), list(0, 0, 0, 13),
		list(most, 0, 0, 0), list(0, least, 0, 0), list(0, 0, most, 0), list(0, 0, least, 0), list(most, most, 0, least), make([]int, 1000),
	}
}

// P1, P2.5 to P2.13: ErrNone, as no world agrees; and P2.1 to P2.4, which need none
func TestNoWorldAgrees(t *testing.T) {
	for i, s := range []api.FlongShop{
		withS(func(s *api.FlongShop) { s.Worlds = nil }),
		withS(func(s *api.FlongShop) { s.Moulds[2].Used = 3 }),
		withS(func(s *api.FlongShop) { s.Moulds[1].Used = 10 }),
		withS(func(s *api.FlongShop) { s.Moulds[0].Used, s.Moulds[0].Broke = 7, 1 }),
		withS(func(s *api.FlongShop) { s.Worlds = [][]int{{9, 9, 1, 9}, {9, 9, 3, 9}, {2, 9, 2, 9}} }),
	} {
		checks.Expect(t, i, api.ErrNone, unlisted(s)...)
		checks.Expect(t, i, api.ErrNone, left(s, 0), left(s, 3), sure(s, 0), sure(s, 1))
		checks.Expect(t, i, api.ErrNone, listed(s, list(0, 0, 0, 0))...)
		checks.Expect(t, i, api.OK, checks.Said("Check", flongs.Check(s), true), worlds(s))
		for world := range s.Worlds {
			checks.Expect(t, i, api.OK, agrees(s, world))
		}
		if ok, e := flongs.Good(s, list(0, 0, 0, 12)); !ok || e != api.OK {
			t.Errorf("%d: Good = %v, %d", i, ok, e)
		}
	}
}

// P2.2 and P2.3
func TestWorlds(t *testing.T) {
	for i, x := range []struct {
		s    api.FlongShop
		want []int
	}{
		{shopS(), list(0, 1, 2)}, {shopT(), list(0, 1, 2)}, {api.FlongShop{Fresh: 1}, nil}, {api.FlongShop{Worlds: [][]int{nil, {}}, Fresh: 1}, list(0, 1)},
		{withS(func(s *api.FlongShop) { s.Moulds[2].Broke = 0 }), list(0, 1, 2, 3)},
		{withS(func(s *api.FlongShop) { s.Moulds[2].Used = 4 }), list(3)},
		{withS(func(s *api.FlongShop) { s.Moulds[0].Used = 8 }), list(0, 2)},
		{withS(func(s *api.FlongShop) { s.Moulds[1].Used = 8 }), list(0, 1)},
		{withS(func(s *api.FlongShop) { s.Moulds[0].Used, s.Moulds[0].Broke = 6, 1 }), list(1)},
		{withS(func(s *api.FlongShop) { s.Moulds[3] = mould(1, 3, 1) }), list(2)},
		{withS(func(s *api.FlongShop) { s.Moulds[3] = mould(1, 0, 1) }), nil},
		{withS(func(s *api.FlongShop) { s.Worlds[1], s.Worlds[3] = s.Worlds[0], s.Worlds[0] }), list(0, 1, 2, 3)},
	} {
		if l, e := flongs.Worlds(x.s); !slices.Equal(l, x.want) || e != api.OK {
			t.Errorf("%d: Worlds = %v, %d, want %v", i, l, e, x.want)
		}
		for world := range x.s.Worlds {
			if ok, e := flongs.Agrees(x.s, world); ok != slices.Contains(x.want, world) || e != api.OK {
				t.Errorf("%d: Agrees(%d) = %v, %d, want %v", i, world, ok, e, x.want)
			}
		}
	}
}

// P2.4
func TestGood(t *testing.T) {
	for _, shares := range [][]int{list(0, 0, 0, 0), list(3, 2, 0, 3), list(12, 12, 0, 12), list(0, 12, 0, 0)} {
		if ok, e := flongs.Good(shopS(), shares); !ok || e != api.OK {
			t.Errorf("Good(%v) = %v, %d", shares, ok, e)
		}
	}
	for _, shares := range notShares() {
		checks.Expect(t, shares, api.OK, good(shopS(), shares))
	}
	for _, shares := range [][]int{nil, {}} {
		if ok, e := flongs.Good(api.FlongShop{Fresh: 1}, shares); !ok || e != api.OK {
			t.Errorf("Good(%v) of no moulds = %v, %d", shares, ok, e)
		}
	}
}

// P2.5
func TestLeft(t *testing.T) {
	for i, want := range []api.Span{span(3, 9), span(2, 4), span(0, 0), span(3, 6)} {
		if l, e := flongs.Left(shopS(), i); l != want || e != api.OK {
			t.Errorf("Left(%d) = %v, %d, want %v", i, l, e, want)
		}
	}
	// A world that does not agree has no part in it, and a mould that was used up has nothing left without having broken.
	s := withS(func(s *api.FlongShop) { s.Moulds[0].Used, s.Moulds[2].Broke = 8, 0 })
	for i, want := range []api.Span{span(0, 4), span(2, 4), span(0, 2), span(3, 9)} {
		if l, e := flongs.Left(s, i); l != want || e != api.OK {
			t.Errorf("Left(%d) of those with 8 casts = %v, %d, want %v", i, l, e, want)
		}
	}
	if l, e := flongs.Left(one(0, list(12)), 0); l != span(12, 12) || e != api.OK {
		t.Errorf("Left of 12 = %v, %d", l, e)
	}
}

// P2.6 and P2.7
func TestSureAndNew(t *testing.T) {
	for i, x := range []struct {
		s     api.FlongShop
		sure  []int
		fresh int
	}{
		{shopS(), list(5, 3), 0}, {shopT(), list(5, 3), 1},
		{withS(func(s *api.FlongShop) { s.Wants = list(11, 3) }), list(5, 3), 1},
		{withS(func(s *api.FlongShop) { s.Wants = list(12, 3) }), list(5, 3), 2},
		{withS(func(s *api.FlongShop) { s.Wants = list(6, 4) }), list(5, 3), 2},
		{withS(func(s *api.FlongShop) { s.Wants, s.Fresh = list(12, 12, 12), 1 }), list(5, 3, 0), 28},
		{withS(func(s *api.FlongShop) { s.Wants, s.Fresh = list(12, 12, 12), 12 }), list(5, 3, 0), 3},
		{withS(func(s *api.FlongShop) { s.Wants = list(0, 0) }), list(5, 3), 0},
		{one(4, list(1, 5), list(5, 1)), list(2), 2},
		{one(12, list(12, 12, 12)), list(36), 0},
		{api.FlongShop{Worlds: [][]int{nil}, Wants: list(2, 0), Fresh: 2}, list(0, 0), 1},
		{api.FlongShop{Worlds: [][]int{nil}, Fresh: 2}, nil, 0},
	} {
		for page, want := range x.sure {
			if n, e := flongs.Sure(x.s, page); n != want || e != api.OK {
				t.Errorf("%d: Sure(%d) = %d, %d, want %d", i, page, n, e, want)
			}
		}
		if n, e := flongs.New(x.s); n != x.fresh || e != api.OK {
			t.Errorf("%d: New = %d, %d, want %d", i, n, e, x.fresh)
		}
	}
}

// P2.8 to P2.10
func TestHolds(t *testing.T) {
	part := func(num, den int) api.Ratio { return api.Ratio{Num: num, Den: den} }
	four := one(0, list(1, 9), list(2, 8), list(3, 7), list(4, 6))
	six := one(0, list(1), list(1), list(2), list(2), list(2), list(3))
	for i, x := range []struct {
		s      api.FlongShop
		shares []int
		holds  int
		chance api.Ratio
		fails  []int
	}{
		{shopS(), list(3, 2, 0, 3), api.Surely, part(1, 1), nil},
		{shopS(), list(0, 0, 0, 0), api.Surely, part(1, 1), nil},
		{shopS(), list(5, 3, 0, 3), api.Perhaps, part(1, 3), list(0, 1)},
		{shopS(), list(0, 3, 0, 0), api.Perhaps, part(2, 3), list(1)},
		{shopS(), list(9, 2, 0, 3), api.Perhaps, part(1, 3), list(0)},
		{shopS(), list(9, 5, 0, 0), api.Never, part(0, 1), list(0, 1)},
		{shopS(), list(9, 4, 0, 0), api.Never, part(0, 1), list(0, 1)},
		{shopS(), list(12, 12, 0, 12), api.Never, part(0, 1), list(0, 1, 3)},
		{four, list(2, 6), api.Perhaps, part(3, 4), list(0)},
		{four, list(3, 6), api.Perhaps, part(1, 2), list(0)},
		{four, list(4, 6), api.Perhaps, part(1, 4), list(0)},
		{four, list(3, 7), api.Perhaps, part(1, 4), list(0, 1)},
		{four, list(4, 7), api.Never, part(0, 1), list(0, 1)},
		{six, list(2), api.Perhaps, part(2, 3), list(0)},
		{six, list(3), api.Perhaps, part(1, 6), list(0)},
		{api.FlongShop{Worlds: [][]int{nil, {}}, Fresh: 1}, nil, api.Surely, part(1, 1), nil},
	} {
		k, e := flongs.Holds(x.s, x.shares)
		c, f := flongs.Chance(x.s, x.shares)
		l, g := flongs.Fails(x.s, x.shares)
		if k != x.holds || c != x.chance || !slices.Equal(l, x.fails) || e != api.OK || f != api.OK || g != api.OK {
			t.Errorf("%d: %v: Holds = %d, %d; Chance = %v, %d; Fails = %v, %d", i, x.shares, k, e, c, f, l, g)
		}
	}
}

// P2.11 and P2.12
func TestDivideAndBold(t *testing.T) {
	for i, x := range []struct {
		s               api.FlongShop
		divides, bolds  bool
		divided, boldly []int
	}{
		{shopS(), true, true, list(3, 2, 0, 3), list(3, 2, 0, 3)},
		{shopT(), false, true, nil, list(2, 4, 0, 3)},
		{withS(func(s *api.FlongShop) { s.Wants = list(0, 0) }), true, true, list(0, 0, 0, 0), list(0, 0, 0, 0)},
		// Only moulds that have a share count: of 3 and 2 casts, one by the first leaves 2.
		{withS(func(s *api.FlongShop) { s.Wants = list(1, 0) }), true, true, list(1, 0, 0, 0), list(0, 1, 0, 0)},
		// 5 and 5 casts: 2 2 leaves 3, 1 3 only 2; of 1 2 and 2 1 the least.
		{one(4, list(5, 5)), true, true, list(2, 2), list(0, 4)},
		{one(3, list(5, 5)), true, true, list(1, 2), list(0, 3)},
		// Of the page 1 nothing can be left, so for page 0 all shares are as good, and the least list is asked for.
		{api.FlongShop{Moulds: []api.FlongMould{mould(0, 0, 0), mould(0, 0, 0), mould(1, 0, 0)}, Worlds: [][]int{{5, 5, 2}}, Wants: list(4, 2), Fresh: 1}, true, true, list(0, 4, 2), list(0, 4, 2)},
		// What is left surely counts, not what is left in one world: 9 1 and 1 9.
		{one(2, list(9, 1, 3), list(1, 9, 3)), true, true, list(0, 0, 2), list(0, 0, 2)},
		{one(12, list(4, 4, 4)), true, true, list(4, 4, 4), list(4, 4, 4)},
		{one(12, list(0), list(11)), false, true, nil, list(12)},
		{one(2, list(1, 1, 0), list(0, 2, 0), list(0, 0, 2), list(0, 1, 2)), false, true, nil, list(0, 0, 2)},
		// Without a mould that can be used nothing is just enough, but if nothing is wanted.
		{api.FlongShop{Moulds: []api.FlongMould{mould(0, 2, 1)}, Worlds: [][]int{{2}}, Wants: list(1), Fresh: 1}, false, false, nil, nil},
		{api.FlongShop{Moulds: []api.FlongMould{mould(0, 2, 1)}, Worlds: [][]int{{2}}, Wants: list(0), Fresh: 1}, true, true, list(0), list(0)},
		{api.FlongShop{Worlds: [][]int{nil}, Wants: list(0, 1), Fresh: 1}, false, false, nil, nil},
		{api.FlongShop{Worlds: [][]int{nil}, Wants: list(0, 0), Fresh: 1}, true, true, nil, nil},
	} {
		l, e := flongs.Divide(x.s)
		if !slices.Equal(l, x.divided) || x.divides != (e == api.OK) || !x.divides && e != api.ErrNone {
			t.Errorf("%d: Divide = %v, %d, want %v", i, l, e, x.divided)
		}
		l, e = flongs.Bold(x.s)
		if !slices.Equal(l, x.boldly) || x.bolds != (e == api.OK) || !x.bolds && e != api.ErrNone {
			t.Errorf("%d: Bold = %v, %d, want %v", i, l, e, x.boldly)
		}
	}
}

// P2.13
func TestTest(t *testing.T) {
	for i, x := range []struct {
		s    api.FlongShop
		want int // -1: there is none
	}{
		{shopS(), -1}, {api.FlongShop{Worlds: [][]int{nil}, Fresh: 1}, -1},
		{withS(func(s *api.FlongShop) { s.Moulds[0].Used = 6 }), 0},
		{withS(func(s *api.FlongShop) { s.Moulds[1].Used = 7 }), 1},
		{withS(func(s *api.FlongShop) { s.Moulds[2].Broke = 0 }), 2},
		{withS(func(s *api.FlongShop) { s.Moulds[3].Used = 3 }), 3},
		{withS(func(s *api.FlongShop) { s.Moulds[0].Used, s.Moulds[3].Used = 6, 3 }), 0},
		{one(0, list(0, 0), list(1, 0), list(1, 1), list(1, 1)), 1},
		{one(0, list(0, 0), list(0, 1), list(0, 1), list(1, 1)), 0},
		{one(0, list(0, 0, 0, 1), list(0, 1, 0, 1), list(0, 1, 9, 0), list(0, 1, 9, 0)), 2},
		{one(0, list(0, 12), list(0, 12)), -1},
	} {
		m, e := flongs.Test(x.s)
		if x.want >= 0 && (m != x.want || e != api.OK) || x.want < 0 && (m != 0 || e != api.ErrNone) {
			t.Errorf("%d: Test = %d, %d, want %d", i, m, e, x.want)
		}
	}
}

// P2.2 to P2.13: TestAllCalls holds each call against what the chapter says word by word.
func TestAllCalls(t *testing.T) {
	for i, s := range someShops(600, 3) {
		checkCalls(t, i, s)
	}
	for i, s := range someShops(25, 4) {
		checkCalls(t, i, s)
	}
}

func checkCalls(t *testing.T, i int, s api.FlongShop) {
	t.Helper()
	agreeing := wantWorlds(s)
	if l, e := flongs.Worlds(s); !slices.Equal(l, agreeing) || e != api.OK {
		t.Errorf("%d: Worlds(%v) = %v, %d, want %v", i, s, l, e, agreeing)
	}
	for world := range s.Worlds {
		if ok, e := flongs.Agrees(s, world); ok != slices.Contains(agreeing, world) || e != api.OK {
			t.Errorf("%d: Agrees(%v, %d) = %v, %d", i, s, world, ok, e)
		}
	}
	if len(agreeing) == 0 {
		checks.Expect(t, s, api.ErrNone, unlisted(s)...)
		return
	}
	for m := range s.Moulds {
		want := span(slices.Min(leftsOf(s, m)), slices.Max(leftsOf(s, m)))
		if l, e := flongs.Left(s, m); l != want || e != api.OK {
			t.Errorf("%d: Left(%v, %d) = %v, %d, want %v", i, s, m, l, e, want)
		}
	}
	shares := allShares(s)
	for n := 0; n < len(shares); n += 1 + len(shares)/40 {
		checkShares(t, i, s, shares[n])
	}
	checkPlans(t, i, s)
}

func checkShares(t *testing.T, i int, s api.FlongShop, shares []int) {
	t.Helper()
	g, e1 := flongs.Good(s, shares)
	k, e2 := flongs.Holds(s, shares)
	c, e3 := flongs.Chance(s, shares)
	f, e4 := flongs.Fails(s, shares)
	if !g || k != wantHolds(s, shares) || c != wantChance(s, shares) || !slices.Equal(f, wantFails(s, shares)) || e1+e2+e3+e4 != api.OK {
		t.Errorf("%d: %v, %v: Good = %v, %d; Holds = %d, %d; Chance = %v, %d; Fails = %v, %d", i, s, shares, g, e1, k, e2, c, e3, f, e4)
	}
}

func checkPlans(t *testing.T, i int, s api.FlongShop) {
	t.Helper()
	want := wantPlanned(s)
	for page := range s.Wants {
		if n, e := flongs.Sure(s, page); n != want.sure[page] || e != api.OK {
			t.Errorf("%d: Sure(%v, %d) = %d, %d, want %d", i, s, page, n, e, want.sure[page])
		}
	}
	if n, e := flongs.New(s); n != want.fresh || e != api.OK {
		t.Errorf("%d: New(%v) = %d, %d, want %d", i, s, n, e, want.fresh)
	}
	l, e := flongs.Divide(s)
	if !slices.Equal(l, want.divide) || want.divides != (e == api.OK) || !want.divides && e != api.ErrNone {
		t.Errorf("%d: Divide(%v) = %v, %d, want %v", i, s, l, e, want.divide)
	}
	l, e = flongs.Bold(s)
	if !slices.Equal(l, want.bold) || want.bolds != (e == api.OK) || !want.bolds && e != api.ErrNone {
		t.Errorf("%d: Bold(%v) = %v, %d, want %v", i, s, l, e, want.bold)
	}
	m, e := flongs.Test(s)
	if best, ok := wantTest(s); ok && (m != best || e != api.OK) || !ok && (m != 0 || e != api.ErrNone) {
		t.Errorf("%d: Test(%v) = %d, %d, want %d", i, s, m, e, best)
	}
}

// TestLargest asks for the shares of a shop as large as it can be.
func TestLargest(t *testing.T) {
	s := one(12, list(12, 12, 12, 12, 12), list(11, 12, 12, 12, 12), list(12, 11, 12, 12, 12), list(12, 12, 11, 12, 12), list(12, 12, 12, 11, 12), list(12, 12, 12, 12, 10))
	// Surely 11 11 11 11 10 are left: of 54, less 12, at most 8 can be left of each; with no share of one mould only 7.
	if l, e := flongs.Divide(s); !slices.Equal(l, list(1, 3, 3, 3, 2)) || e != api.OK {
		t.Errorf("Divide = %v, %d", l, e)
	}
	if l, e := flongs.Bold(s); !slices.Equal(l, list(0, 0, 0, 2, 10)) || e != api.OK {
		t.Errorf("Bold = %v, %d", l, e)
	}
	if n, e := flongs.Sure(s, 0); n != 54 || e != api.OK {
		t.Errorf("Sure = %d, %d", n, e)
	}
}

// R2 to R4: TestMemory looks for memory that is shared or changed, and for what one call leaves to the next one.
func TestMemory(t *testing.T) {
	s, shares := shopS(), list(5, 3, 0, 3)
	calls := []func() ([]int, api.Errno){
		func() ([]int, api.Errno) { return flongs.Worlds(s) },
		func() ([]int, api.Errno) { return flongs.Fails(s, shares) },
		func() ([]int, api.Errno) { return flongs.Divide(s) },
		func() ([]int, api.Errno) { return flongs.Bold(s) },
	}
	for range 2 {
		listed(s, shares)
		unlisted(s)
		good(s, shares)
		for i, want := range [][]int{list(0, 1, 2), list(0, 1), list(3, 2, 0, 3), list(3, 2, 0, 3)} {
			l, e := calls[i]()
			if !slices.Equal(l, want) || e != api.OK {
				t.Errorf("%d: %v, %d, want %v", i, l, e, want)
			}
			for n := range l[:cap(l)] {
				l[:cap(l)][n] = -7
			}
		}
		if !checks.SameShop(s, shopS()) || !slices.Equal(shares, list(5, 3, 0, 3)) {
			t.Fatalf("an argument was changed: %v, %v", s, shares)
		}
	}
}
