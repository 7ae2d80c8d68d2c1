package metal_test

import (
	"math"
	"slices"
	"testing"

	"flong/api"
	"flong/checks"
	"flong/metal"
)

// listed returns the answers of the calls that have a list.
func listed(s api.MetalShop, add []int) []checks.Answer {
	p, e1 := metal.After(s, add)
	k, e2 := metal.Safe(s, add)
	f, e3 := metal.Fails(s, add)
	l, e4 := metal.Lead(s, add)
	return []checks.Answer{
		checks.Said("After", e1, p == api.MetalPot{}), checks.Said("Safe", e2, k == 0), checks.Said("Fails", e3, len(f) == 0), checks.Said("Lead", e4, l == api.Span{}),
	}
}

// unlisted returns the answers of the calls that have none, but for Check.
func unlisted(s api.MetalShop) []checks.Answer {
	short, e1 := metal.Short(s)
	cheap, e2 := metal.Cheap(s)
	mend, e3 := metal.Mend(s)
	tin, e4 := metal.Tin(s)
	known, e5 := metal.Known(s)
	worth, e6 := metal.Worth(s)
	return []checks.Answer{
		checks.Said("Short", e1, len(short) == 0), checks.Said("Cheap", e2, cheap == 0), checks.Said("Mend", e3, len(mend) == 0),
		checks.Said("Tin", e4, tin == 0), checks.Said("Known", e5, known == api.Span{}), checks.Said("Worth", e6, worth == 0),
	}
}

func mixed(s api.MetalShop, other api.MetalPot) checks.Answer {
	p, e := metal.Mix(s, other)
	return checks.Said("Mix", e, p == api.MetalPot{})
}

// P1.1
func TestCheckValid(t *testing.T) {
	for i, s := range []api.MetalShop{
		shopM(), shopL(), {},
		wide(pot(400, 0, 400, 0, 0), 400), wide(pot(400, 400, 400, 0, 0), 999), wide(pot(400, 0, 0, 0, 400), 999), wide(pot(400, 150, 200, 0, 200), 999), wide(pot(0, 0, 0, 0, 0), 0),
		withM(func(s *api.MetalShop) { s.Room = 200 }), withM(func(s *api.MetalShop) { s.Room = 999 }),
		withM(func(s *api.MetalShop) { s.TinPart = span(1000, 1000) }), withM(func(s *api.MetalShop) { s.TinPart = span(0, 0) }),
		withM(func(s *api.MetalShop) { s.AntimonyPart = span(1000, 1000) }), withM(func(s *api.MetalShop) { s.AntimonyPart = span(0, 1000) }),
		withM(func(s *api.MetalShop) { s.TinPart, s.AntimonyPart = span(900, 1000), span(900, 1000) }),
		withM(func(s *api.MetalShop) { s.Pigs = nil }),
		wide(pot(0, 0, 0, 0, 0), 0, pig(40, 20, 20, 99, 5), pig(40, 40, 0, 0, 0), pig(40, 0, 40, 99, 0), pig(1, 0, 0, 0, 5)),
		wide(pot(0, 0, 0, 0, 0), 0, pig(1, 1, 0, 0, 0), pig(1, 0, 1, 0, 0)),
	} {
		if e := metal.Check(s); e != api.OK {
			t.Errorf("%d: Check(%v) = %d", i, s, e)
		}
	}
}

// invalid has shops that are not valid, each by one number, or by numbers whose sum does not fit an int.
func invalid() []api.MetalShop {
	const most, least = math.MaxInt, math.MinInt
	var shops []api.MetalShop
	add := func(change func(s *api.MetalShop, n int), numbers ...int) {
		for _, n := range numbers {
			shops = append(shops, withM(func(s *api.MetalShop) { change(s, n) }))
		}
	}
	add(func(s *api.MetalShop, n int) { s.Pot.Pounds, s.Room = n, max(n, 300) }, -1, 0, 37, 401, 999, most, least)
	add(func(s *api.MetalShop, n int) { s.Pot.Tin.Low = n }, -1, 9, most, least)
	add(func(s *api.MetalShop, n int) { s.Pot.Tin.High = n }, 5, 171, -1, most, most-20, least)
	add(func(s *api.MetalShop, n int) { s.Pot.Antimony.Low = n }, -1, 31, most, least)
	add(func(s *api.MetalShop, n int) { s.Pot.Antimony.High = n }, 27, 193, -1, most, most-5, least)
	add(func(s *api.MetalShop, n int) { s.Pot.Tin.High, s.Pot.Antimony.High = n, n }, 101, 200, most, most/2+1)
	add(func(s *api.MetalShop, n int) { s.Room = n }, 199, 1000, 0, -1, most, least)
	for _, part := range []func(s *api.MetalShop) *api.Span{
		func(s *api.MetalShop) *api.Span { return &s.TinPart }, func(s *api.MetalShop) *api.Span { return &s.AntimonyPart },
	} {
		add(func(s *api.MetalShop, n int) { part(s).Low = n }, -1, 161, most, least)
		add(func(s *api.MetalShop, n int) { part(s).High = n }, 39, 1001, -1, most, least)
	}
	for kind := range 3 {
		add(func(s *api.MetalShop, n int) { s.Pigs[kind] = pig(n, 0, 0, 1, 1) }, 0, -1, 41, most, least)
		add(func(s *api.MetalShop, n int) { s.Pigs[kind] = pig(10, n, 4, 1, 1) }, -1, 7, 11, most, most-3, least)
		add(func(s *api.MetalShop, n int) { s.Pigs[kind] = pig(10, 4, n, 1, 1) }, -1, 7, 11, most, most-3, least)
		add(func(s *api.MetalShop, n int) { s.Pigs[kind] = pig(10, n, n, 1, 1) }, 6, most, most/2+1)
		add(func(s *api.MetalShop, n int) { s.Pigs[kind].Pence = n }, -1, 100, most, least)
		add(func(s *api.MetalShop, n int) { s.Pigs[kind].Many = n }, -1, 6, most, least)
	}
	add(func(s *api.MetalShop, n int) { s.Pigs = slices.Repeat(s.Pigs[:1], n) }, 5, 6, 100)
	return shops
}

// P1 and P1.1, and ErrMetal ahead of all other errors
func TestCheckInvalid(t *testing.T) {
	for _, s := range invalid() {
		checks.Expect(t, s, api.ErrMetal, checks.Said("Check", metal.Check(s), true))
		for _, add := range [][]int{list(0, 0, 0), nil, list(-1), list(math.MaxInt, math.MaxInt, math.MinInt)} {
			checks.Expect(t, s, api.ErrMetal, listed(s, add)...)
		}
		checks.Expect(t, s, api.ErrMetal, unlisted(s)...)
		checks.Expect(t, s, api.ErrMetal, mixed(s, pot(0, 0, 0, 0, 0)), mixed(s, pot(-1, 0, 0, 0, 0)))
	}
}

// P1 and P1.2, P1.4 to P1.6: ErrArg
func TestNotAnAddition(t *testing.T) {
	const most, least = math.MaxInt, math.MinInt
	for _, add := range [][]int{
		nil, list(0), list(0, 0), list(0, 0, 0, 0), list(-1, 0, 0), list(0, -1, 0), list(0, 0, -1), list(4, 0, 0), list(0, 3, 0), list(0, 0, 3),
		list(2, 2, 2), list(3, 2, 2), list(4, -1, 0), list(most, 0, 0), list(0, most, most), list(0, 0, least), list(most, least, 1),
	} {
		checks.Expect(t, add, api.ErrArg, listed(shopM(), add)...)
	}
	// With room for 100 pounds more 3 1 2 just fits (30 + 20 + 50); with a pound less it does not.
	checks.ExpectNot(t, "what just fits", api.ErrArg, listed(shopM(), list(3, 1, 2))...)
	checks.Expect(t, "no room", api.ErrArg, listed(withM(func(s *api.MetalShop) { s.Room = 299 }), list(3, 1, 2))...)
	checks.Expect(t, "none of the kind", api.ErrArg, listed(shopL(), list(1, 0, 0))...)
	checks.Expect(t, "no kinds", api.ErrArg, listed(api.MetalShop{}, list(0))...)
}

// P1.2
func TestAfter(t *testing.T) {
	for i, x := range []struct {
		s    api.MetalShop
		add  []int
		want api.MetalPot
	}{
		{shopM(), list(1, 1, 1), pot(255, 12, 14, 34, 36)}, {shopM(), list(0, 0, 0), pot(200, 6, 8, 28, 30)}, {shopM(), list(3, 1, 2), pot(300, 22, 24, 34, 36)},
		{api.MetalShop{}, nil, pot(0, 0, 0, 0, 0)}, {api.MetalShop{}, list(), pot(0, 0, 0, 0, 0)},
		{wide(pot(400, 1, 3, 2, 7), 999, pig(40, 20, 19, 1, 5), pig(40, 7, 3, 1, 5), pig(39, 1, 2, 0, 5)), list(5, 5, 5), pot(995, 141, 143, 122, 127)},
		{wide(pot(400, 0, 0, 0, 0), 401, pig(1, 0, 1, 0, 1)), list(1), pot(401, 0, 0, 1, 1)},
	} {
		if p, e := metal.After(x.s, x.add); p != x.want || e != api.OK {
			t.Errorf("%d: After = %v, %d, want %v", i, p, e, x.want)
		}
	}
}

// P1.3
func TestMix(t *testing.T) {
	for i, x := range []struct {
		s           api.MetalShop
		other, want api.MetalPot
	}{
		{shopM(), pot(50, 2, 3, 5, 5), pot(250, 8, 11, 33, 35)}, {shopM(), pot(100, 0, 60, 0, 40), pot(300, 6, 68, 28, 70)}, {shopM(), pot(0, 0, 0, 0, 0), shopM().Pot},
		{api.MetalShop{}, pot(0, 0, 0, 0, 0), pot(0, 0, 0, 0, 0)}, {wide(pot(400, 0, 100, 1, 2), 800), pot(400, 3, 4, 5, 6), pot(800, 3, 104, 6, 8)},
	} {
		if p, e := metal.Mix(x.s, x.other); p != x.want || e != api.OK {
			t.Errorf("%d: Mix = %v, %d, want %v", i, p, e, x.want)
		}
	}
	const most, least = math.MaxInt, math.MinInt
	for _, p := range []api.MetalPot{
		pot(-1, 0, 0, 0, 0), pot(101, 0, 0, 0, 0), pot(10, 3, 2, 0, 0), pot(10, 0, 0, 3, 2), pot(10, 0, 6, 0, 5), pot(10, -1, 5, 0, 0), pot(10, 0, 0, -1, 5), pot(10, 0, 11, 0, 0), pot(10, 0, 0, 0, 11),
		pot(most, 0, 0, 0, 0), pot(least, 0, 0, 0, 0), pot(10, 0, most, 0, most), pot(10, least, 0, least, 0), pot(most, 0, most, 0, most),
	} {
		checks.Expect(t, p, api.ErrArg, mixed(shopM(), p))
	}
	checks.Expect(t, "too many pounds", api.ErrArg, mixed(wide(pot(0, 0, 0, 0, 0), 999), pot(401, 0, 0, 0, 0)))
}

// P1.4 and P1.5
func TestSafe(t *testing.T) {
	// The tin of the second shop is above no limit and below no limit at once, but it is a whole number of pounds: no truth is within both.
	gap := api.MetalShop{Pot: pot(10, 0, 1, 0, 0), Room: 10, TinPart: span(40, 60), AntimonyPart: span(0, 0)}
	apart := api.MetalShop{Pot: pot(10, 0, 0, 0, 1), Room: 10, TinPart: span(0, 0), AntimonyPart: span(40, 60)}
	both := api.MetalShop{Pot: pot(10, 0, 1, 0, 1), Room: 10, TinPart: span(100, 100), AntimonyPart: span(100, 1000)}
	just := api.MetalShop{Pot: pot(1000/5, 8, 12, 24, 32), Room: 200, TinPart: span(40, 60), AntimonyPart: span(120, 160)}
	for i, x := range []struct {
		s     api.MetalShop
		add   []int
		safe  int
		fails []int
	}{
		{shopM(), list(0, 0, 0), api.Perhaps, list(1)}, {shopM(), list(1, 0, 0), api.Perhaps, list(2)}, {shopM(), list(1, 1, 1), api.Surely, nil}, {shopM(), list(2, 0, 0), api.Never, list(2)},
		{shopM(), list(0, 1, 0), api.Perhaps, list(1, 4)}, {shopM(), list(1, 0, 1), api.Perhaps, list(3)}, {shopM(), list(0, 2, 0), api.Never, list(1, 4)}, {shopM(), list(3, 0, 2), api.Never, list(2, 3)},
		{gap, nil, api.Never, list(1, 2)}, {apart, nil, api.Never, list(3, 4)}, {both, nil, api.Perhaps, list(1, 3)}, {just, nil, api.Surely, nil},
		{changed(just, func(s *api.MetalShop) { s.Pot.Tin.Low = 7 }), nil, api.Perhaps, list(1)}, {changed(just, func(s *api.MetalShop) { s.Pot.Tin.High = 13 }), nil, api.Perhaps, list(2)},
		{changed(just, func(s *api.MetalShop) { s.Pot.Antimony.Low = 23 }), nil, api.Perhaps, list(3)}, {changed(just, func(s *api.MetalShop) { s.Pot.Antimony.High = 33 }), nil, api.Perhaps, list(4)},
		{changed(just, func(s *api.MetalShop) { s.Pot.Tin, s.Pot.Antimony = span(0, 90), span(0, 90) }), nil, api.Perhaps, list(1, 2, 3, 4)},
		{api.MetalShop{}, nil, api.Surely, nil}, {api.MetalShop{TinPart: span(500, 500), AntimonyPart: span(1000, 1000)}, nil, api.Surely, nil},
	} {
		k, e := metal.Safe(x.s, x.add)
		l, f := metal.Fails(x.s, x.add)
		if k != x.safe || e != api.OK || !slices.Equal(l, x.fails) || f != api.OK {
			t.Errorf("%d: Safe = %d, %d, want %d; Fails = %v, %d, want %v", i, k, e, x.safe, l, f, x.fails)
		}
	}
}

// P1.6
func TestLead(t *testing.T) {
	pure := api.MetalShop{Pot: pot(10, 1, 1, 1, 1), Room: 50, TinPart: span(20, 50), AntimonyPart: span(20, 50)}
	for i, x := range []struct {
		s    api.MetalShop
		add  []int
		want api.Span
	}{
		{shopM(), list(1, 1, 0), span(4, 53)}, {shopM(), list(1, 0, 0), span(7, 23)}, {shopM(), list(1, 1, 1), span(0, 28)}, {shopM(), list(1, 1, 2), span(0, 3)},
		{pure, nil, span(10, 40)}, {changed(pure, func(s *api.MetalShop) { s.Room = 30 }), nil, span(10, 20)}, {changed(pure, func(s *api.MetalShop) { s.Room = 60 }), nil, span(10, 40)}, {changed(pure, func(s *api.MetalShop) { s.Room = 20 }), nil, span(10, 10)},
		{api.MetalShop{}, nil, span(0, 0)}, {wide(pot(0, 0, 0, 0, 0), 999), nil, span(0, 999)}, {api.MetalShop{Room: 9, TinPart: span(1, 1)}, nil, span(0, 0)},
	} {
		if l, e := metal.Lead(x.s, x.add); l != x.want || e != api.OK {
			t.Errorf("%d: Lead = %v, %d, want %v", i, l, e, x.want)
		}
	}
	for i, x := range []struct {
		s   api.MetalShop
		add []int
	}{{shopM(), list(0, 0, 0)}, {shopM(), list(3, 0, 2)}, {changed(pure, func(s *api.MetalShop) { s.Room = 19 }), nil}, {changed(pure, func(s *api.MetalShop) { s.Pot.Tin.High = 3 }), nil}} {
		if l, e := metal.Lead(x.s, x.add); l != (api.Span{}) || e != api.ErrNone {
			t.Errorf("%d: Lead = %v, %d, want ErrNone", i, l, e)
		}
	}
}

// P1.7
func TestShort(t *testing.T) {
	bare := func(tin, antimony api.Span) api.MetalShop {
		return api.MetalShop{Pot: pot(10, 4, 4, 4, 4), Room: 20, TinPart: tin, AntimonyPart: antimony, Pigs: []api.MetalPig{pig(10, 0, 0, 0, 1)}}
	}
	for i, x := range []struct {
		s    api.MetalShop
		want []int
	}{
		{shopM(), nil}, {shopL(), list(1)}, {api.MetalShop{}, nil},
		{bare(span(0, 1000), span(0, 1000)), nil}, {bare(span(401, 1000), span(0, 199)), list(1, 4)}, {bare(span(0, 199), span(401, 1000)), list(2, 3)},
		{bare(span(400, 400), span(200, 200)), nil}, {changed(bare(span(300, 300), span(0, 200)), func(s *api.MetalShop) { s.Room = 19 }), list(2, 4)},
		{changed(bare(span(410, 420), span(410, 420)), func(s *api.MetalShop) { s.Pot = pot(10, 1, 5, 1, 5); s.Pigs = nil }), list(1, 2, 3, 4)},
	} {
		if l, e := metal.Short(x.s); !slices.Equal(l, x.want) || e != api.OK {
			t.Errorf("%d: Short = %v, %d, want %v", i, l, e, x.want)
		}
	}
}

// P1.8 to P1.10
func TestMended(t *testing.T) {
	// lean has too little tin unless a pig with 3 pounds of tin is added.
	lean := func(pigs ...api.MetalPig) api.MetalShop {
		s := wide(pot(10, 0, 0, 0, 0), 60, pigs...)
		s.TinPart.Low = 100
		return s
	}
	for i, x := range []struct {
		s          api.MetalShop
		cheap, tin int
		mend       []int
	}{
		{shopM(), 60, 6, list(1, 1, 1)}, {api.MetalShop{}, 0, 0, nil},
		{lean(pig(5, 3, 0, 7, 1), pig(10, 3, 0, 7, 1)), 7, 3, list(1, 0)},                          // as dear, but fewer pounds
		{lean(pig(10, 3, 0, 7, 1), pig(5, 3, 0, 7, 1)), 7, 3, list(0, 1)},                          // likewise
		{lean(pig(10, 3, 0, 7, 1), pig(10, 3, 0, 7, 1)), 7, 3, list(0, 1)},                         // as dear, as many pounds: the least list
		{lean(pig(10, 3, 0, 0, 1), pig(10, 3, 0, 0, 5), pig(40, 9, 0, 0, 1)), 0, 3, list(0, 1, 0)}, // nothing costs a penny
		{lean(pig(10, 9, 0, 1, 2), pig(10, 3, 0, 50, 2)), 1, 3, list(1, 0)},                        // the cheapest one has not the least tin
		{lean(pig(40, 8, 0, 98, 1), pig(1, 1, 0, 50, 2)), 98, 2, list(1, 0)},                       // one penny is more than any number of pounds
		{lean(pig(10, 3, 0, 99, 1)), 99, 3, list(1)}, {lean(pig(1, 1, 0, 99, 5)), 198, 2, list(2)},
		{wide(pot(10, 0, 5, 0, 5), 60, pig(1, 1, 0, 0, 5)), 0, 0, list(0)},
	} {
		cheap, e := metal.Cheap(x.s)
		mend, f := metal.Mend(x.s)
		tin, g := metal.Tin(x.s)
		if cheap != x.cheap || e != api.OK || !slices.Equal(mend, x.mend) || f != api.OK || tin != x.tin || g != api.OK {
			t.Errorf("%d: Cheap = %d, %d, want %d; Mend = %v, %d, want %v; Tin = %d, %d, want %d", i, cheap, e, x.cheap, mend, f, x.mend, tin, g, x.tin)
		}
	}
	noRoom := changed(lean(pig(10, 3, 0, 7, 1)), func(s *api.MetalShop) { s.Room = 19 })
	for _, s := range []api.MetalShop{shopL(), noRoom, lean(pig(10, 3, 0, 7, 0)), lean()} {
		checks.Expect(t, s, api.ErrNone, unlisted(s)[1:]...)
	}
}

// P1.11 and P1.12
func TestKnown(t *testing.T) {
	for i, x := range []struct {
		s     api.MetalShop
		known api.Span
		worth int // -1: there is no safe addition
	}{
		{shopM(), span(0, 30), 30}, {api.MetalShop{}, span(0, 0), 0},
		{withM(func(s *api.MetalShop) { s.Pot.Tin = span(8, 8) }), span(0, 0), 0}, {withM(func(s *api.MetalShop) { s.TinPart.High = 70 }), span(0, 30), 0}, {withM(func(s *api.MetalShop) { s.Room = 254 }), span(0, 30), -1},
		// Without tin a pig of tin must be added, with two pounds of it one of lead, and with one pound nothing.
		{api.MetalShop{Pot: pot(10, 0, 2, 0, 0), Room: 20, TinPart: span(90, 110), Pigs: []api.MetalPig{pig(1, 1, 0, 20, 1), pig(9, 0, 0, 30, 1)}}, span(0, 30), -1},
		{api.MetalShop{Pot: pot(10, 0, 0, 0, 2), Room: 20, AntimonyPart: span(90, 110), Pigs: []api.MetalPig{pig(1, 0, 1, 40, 1), pig(9, 0, 0, 30, 1)}}, span(0, 40), -1},
	} {
		known, e := metal.Known(x.s)
		worth, f := metal.Worth(x.s)
		if known != x.known || e != api.OK || x.worth >= 0 && (worth != x.worth || f != api.OK) || x.worth < 0 && (worth != 0 || f != api.ErrNone) {
			t.Errorf("%d: Known = %v, %d, want %v; Worth = %d, %d, want %d", i, known, e, x.known, worth, f, x.worth)
		}
	}
	// In the one truth nothing needs to be done, in the other nothing can be.
	half := api.MetalShop{Pot: pot(10, 0, 1, 0, 0), Room: 20, TinPart: span(100, 100)}
	checks.Expect(t, half, api.ErrNone, unlisted(half)[4:]...)
}

// P1.4 to P1.12: TestAllCalls holds each call against what the chapter says word by word.
func TestAllCalls(t *testing.T) {
	for i, s := range someShops(3000) {
		for _, add := range additions(s)[:min(40, len(additions(s)))] {
			checkListed(t, i, s, add)
		}
		if short, e := metal.Short(s); !slices.Equal(short, wantShort(s)) || e != api.OK {
			t.Errorf("%d: Short(%v) = %v, %d, want %v", i, s, short, e, wantShort(s))
		}
		checkMended(t, i, s)
		if t.Failed() {
			return
		}
	}
}

func checkListed(t *testing.T, i int, s api.MetalShop, add []int) {
	t.Helper()
	safe, e := metal.Safe(s, add)
	fails, f := metal.Fails(s, add)
	if safe != wantSafe(s, add, 0) || e != api.OK || !slices.Equal(fails, wantFails(s, add)) || f != api.OK {
		t.Errorf("%d: %v, %v: Safe = %d, %d, want %d; Fails = %v, %d, want %v", i, s, add, safe, e, wantSafe(s, add, 0), fails, f, wantFails(s, add))
	}
	want, ok := wantLead(s, add)
	if lead, e := metal.Lead(s, add); lead != want || ok != (e == api.OK) || ok == (e == api.ErrNone) {
		t.Errorf("%d: Lead(%v, %v) = %v, %d, want %v, %v", i, s, add, lead, e, want, ok)
	}
}

func checkMended(t *testing.T, i int, s api.MetalShop) {
	t.Helper()
	want := wantMended(s)
	known, some := wantKnown(s)
	if want.some {
		cheap, e := metal.Cheap(s)
		mend, f := metal.Mend(s)
		tin, g := metal.Tin(s)
		worth, h := metal.Worth(s)
		if cheap != want.cheap || !slices.Equal(mend, want.mend) || tin != want.tin || worth != want.cheap-known.High || e+f+g+h != api.OK {
			t.Errorf("%d: %v: Cheap = %d, %d; Mend = %v, %d; Tin = %d, %d; Worth = %d, %d, want %v", i, s, cheap, e, mend, f, tin, g, worth, h, want)
		}
	} else {
		answers := unlisted(s)
		checks.Expect(t, s, api.ErrNone, answers[1], answers[2], answers[3], answers[5])
	}
	if k, e := metal.Known(s); k != known || some != (e == api.OK) || some == (e == api.ErrNone) {
		t.Errorf("%d: Known(%v) = %v, %d, want %v, %v", i, s, k, e, known, some)
	}
}

// TestLargest asks all calls about a shop as large as it can be.
func TestLargest(t *testing.T) {
	s := api.MetalShop{Pot: pot(400, 0, 200, 0, 200), Room: 999, TinPart: span(0, 250), AntimonyPart: span(0, 250), Pigs: []api.MetalPig{pig(40, 0, 0, 99, 5), pig(40, 0, 0, 98, 5), pig(37, 0, 1, 97, 5), pig(39, 1, 0, 96, 5)}}
	known, e := metal.Known(s)
	mend, f := metal.Mend(s)
	worth, g := metal.Worth(s)
	// 250 parts of 800 pounds are 200 pounds: with ten pigs all of them must have 40 pounds, and eleven cost more.
	if known != span(0, 985) || !slices.Equal(mend, list(5, 5, 0, 0)) || worth != 0 || e+f+g != api.OK {
		t.Errorf("Known = %v, %d; Mend = %v, %d; Worth = %d, %d", known, e, mend, f, worth, g)
	}
}

// R2 to R4: TestMemory looks for memory that is shared or changed, and for what one call leaves to the next one.
func TestMemory(t *testing.T) {
	s, add := shopM(), list(0, 1, 0)
	mend, _ := metal.Mend(s)
	fails, _ := metal.Fails(s, add)
	short, _ := metal.Short(shopL())
	listed(s, add)
	unlisted(s)
	if !same(s, shopM()) || !slices.Equal(add, list(0, 1, 0)) {
		t.Errorf("an argument was changed: %v, %v", s, add)
	}
	for _, l := range [][]int{mend, fails, short} {
		clear(l[:cap(l)])
	}
	if mend, _ := metal.Mend(s); !slices.Equal(mend, list(1, 1, 1)) {
		t.Errorf("Mend = %v", mend)
	}
	if fails, _ := metal.Fails(s, add); !slices.Equal(fails, list(1, 4)) {
		t.Errorf("Fails = %v", fails)
	}
	if short, _ := metal.Short(shopL()); !slices.Equal(short, list(1)) {
		t.Errorf("Short = %v", short)
	}
	if !same(s, shopM()) || !slices.Equal(add, list(0, 1, 0)) {
		t.Errorf("a result shares memory with an argument: %v, %v", s, add)
	}
}
