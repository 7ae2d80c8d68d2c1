package weeks_test

import (
	"math"
	"reflect"
	"slices"
	"testing"

	"flong/api"
	"flong/checks"
	"flong/weeks"
)

const most, least = math.MaxInt, math.MinInt

func samePlan(one, other [][]int) bool {
	return slices.EqualFunc(one, other, slices.Equal[[]int])
}

func potOf(f api.WeekFoundry, plan [][]int, night int) checks.Answer {
	p, tin, antimony, e := weeks.Pot(f, plan, night)
	return checks.Said("Pot", e, p == api.Span{} && tin == api.Span{} && antimony == api.Span{})
}

// planned returns the answers of the other calls that have a plan.
func planned(f api.WeekFoundry, plan [][]int) []checks.Answer {
	k, e1 := weeks.Safe(f, plan)
	l, e2 := weeks.Fails(f, plan)
	return []checks.Answer{checks.Said("Safe", e1, k == 0), checks.Said("Fails", e2, len(l) == 0)}
}

func last(f api.WeekFoundry) checks.Answer {
	n, e := weeks.Last(f)
	return checks.Said("Last", e, n == 0)
}

// blind returns the answers of the calls for which there are no analyses.
func blind(f api.WeekFoundry) []checks.Answer {
	n, e1 := weeks.Cheap(f)
	plan, e2 := weeks.Plan(f)
	m, e3 := weeks.Once(f)
	return []checks.Answer{checks.Said("Cheap", e1, n == 0), checks.Said("Plan", e2, len(plan) == 0), checks.Said("Once", e3, m == 0)}
}

func known(f api.WeekFoundry) checks.Answer {
	n, e := weeks.Known(f)
	return checks.Said("Known", e, n == 0)
}

func worth(f api.WeekFoundry) checks.Answer {
	n, e := weeks.Worth(f)
	return checks.Said("Worth", e, n == 0)
}

func ask(f api.WeekFoundry) checks.Answer {
	n, e := weeks.Ask(f)
	return checks.Said("Ask", e, n == 0)
}

// P13.1
func TestCheckValid(t *testing.T) {
	for i, f := range []api.WeekFoundry{
		foundryW(), foundryU(), foundryV(), largest(), {},
		withW(func(f *api.WeekFoundry) { f.Nights = nil }), withW(func(f *api.WeekFoundry) { f.Shop.Pigs = nil }),
		withW(func(f *api.WeekFoundry) { f.Nights[0] = night(0, 3, 1) }), withW(func(f *api.WeekFoundry) { f.Nights[0] = night(3, 3, 0) }),
		withW(func(f *api.WeekFoundry) { f.Nights = append(f.Nights, night(0, 1, 1)) }), withW(func(f *api.WeekFoundry) { f.Shop.Pot.Tin.Low = 5 }),
		withW(func(f *api.WeekFoundry) { f.Shop.Pot.Tin, f.Nights[1] = span(13, 13), night(9, 9, 0) }),
		{Nights: make([]api.WeekNight, 4)}, {Shop: api.MetalShop{Pot: pot(36, 36, 36, 0, 0), Room: 36}, Nights: slices.Repeat([]api.WeekNight{night(9, 9, 0)}, 4)},
	} {
		if e := weeks.Check(f); e != api.OK {
			t.Errorf("%d: Check(%v) = %d", i, f, e)
		}
	}
}

// invalid has foundries that are not valid, each by one number, or by numbers whose sum does not fit an int.
func invalid() []api.WeekFoundry {
	var foundries []api.WeekFoundry
	add := func(change func(f *api.WeekFoundry, n int), numbers ...int) {
		for _, n := range numbers {
			foundries = append(foundries, withW(func(f *api.WeekFoundry) { change(f, n) }))
		}
	}
	for i := range foundryW().Nights {
		add(func(f *api.WeekFoundry, n int) { f.Nights[i].Dross.Low = n }, -1, 3, most, least)
		add(func(f *api.WeekFoundry, n int) { f.Nights[i].Dross.High = n }, 0, -1, 9, 10, most, most-2, least)
		add(func(f *api.WeekFoundry, n int) { f.Nights[i].Test = n }, -1, 2, 3, most, least)
		add(func(f *api.WeekFoundry, n int) { f.Shop.Pot, f.Nights[i] = pot(100, 70, 70, 10, 10), night(0, n, 0) }, 10, 11, most)
		add(func(f *api.WeekFoundry, n int) { f.Shop.Pot, f.Nights[i] = pot(100, 70, 70, 10, 10), night(n, n, 0) }, 10, -1, least)
	}
	add(func(f *api.WeekFoundry, n int) { f.Nights = make([]api.WeekNight, n) }, 5, 6, 1000)
	// All of the tin may be lost.
	add(func(f *api.WeekFoundry, n int) { f.Shop.Pot.Tin.Low = n }, 4, 3, 0, -1, 8, most, least)
	add(func(f *api.WeekFoundry, n int) { f.Nights = append(f.Nights, night(0, n, 0)) }, 2, 3, most-4)
	add(func(f *api.WeekFoundry, n int) {
		f.Nights = []api.WeekNight{night(0, n, 0), night(0, n, 0), night(0, n, 0), night(0, n, 0)}
	}, 2, most/4+1, most/2+1)
	// The shop is not valid.
	add(func(f *api.WeekFoundry, n int) { f.Shop.Room = n }, 99, 1000, -1, most, least)
	add(func(f *api.WeekFoundry, n int) { f.Shop.Pot.Pounds = n }, 20, 131, 401, -1, most, least)
	add(func(f *api.WeekFoundry, n int) { f.Shop.Pot.Antimony.High = n }, 12, 94, most, least)
	add(func(f *api.WeekFoundry, n int) { f.Shop.TinPart.High = n }, 39, 1001, most, least)
	add(func(f *api.WeekFoundry, n int) { f.Shop.AntimonyPart.Low = n }, -1, 151, most, least)
	add(func(f *api.WeekFoundry, n int) { f.Shop.Pigs[0].Many = n }, -1, 6, most, least)
	add(func(f *api.WeekFoundry, n int) { f.Shop.Pigs[0].Pounds = n }, 3, 0, -1, 41, most, least)
	add(func(f *api.WeekFoundry, n int) { f.Shop.Pigs = slices.Repeat(f.Shop.Pigs, n) }, 5, 1000)
	return foundries
}

// P1 and P13.1, and ErrWeek ahead of all other errors
func TestCheckInvalid(t *testing.T) {
	for _, f := range invalid() {
		checks.Expect(t, f, api.ErrWeek, checks.Said("Check", weeks.Check(f), true), last(f), known(f), worth(f), ask(f))
		checks.Expect(t, f, api.ErrWeek, blind(f)...)
		for _, plan := range [][][]int{lists(list(0), list(0), list(0)), nil, lists(list(-1)), lists(list(most), nil, list(least)), make([][]int, 5)} {
			checks.Expect(t, f, api.ErrWeek, planned(f, plan)...)
			checks.Expect(t, f, api.ErrWeek, potOf(f, plan, 0), potOf(f, plan, -1), potOf(f, plan, 9))
		}
	}
}

// P1 and P13.2 to P13.4: ErrArg
func TestNotAPlan(t *testing.T) {
	f := withW(func(f *api.WeekFoundry) { f.Shop.Pigs = append(f.Shop.Pigs, pig(2, 0, 0, 1, 5)) })
	for _, plan := range [][][]int{
		nil, lists(list(0, 0)), lists(list(0, 0), list(0, 0)), slices.Repeat(lists(list(0, 0)), 4),
		lists(nil, list(0, 0), list(0, 0)), lists(list(0, 0), list(0), list(0, 0)), lists(list(0, 0), list(0, 0), list(0, 0, 0)),
		lists(list(-1, 0), list(0, 0), list(0, 0)), lists(list(1, 0), list(-1, 0), list(0, 0)), lists(list(0, 1), list(0, 0), list(0, -1)),
		lists(list(3, 0), list(0, 0), list(0, 0)), lists(list(1, 0), list(1, 0), list(1, 0)), lists(list(0, 0), list(0, 5), list(0, 1)),
		lists(list(0, 0), list(0, 0), list(most, 0)), lists(list(1, 0), list(most, 0), list(0, 0)), lists(list(most, 0), list(most, 0), list(2, 0)), lists(list(0, least), list(0, 0), list(0, 0)), lists(list(0, 1), list(0, least), list(0, most)),
	} {
		checks.Expect(t, plan, api.ErrArg, planned(f, plan)...)
		checks.Expect(t, plan, api.ErrArg, potOf(f, plan, 0), potOf(f, plan, 2), potOf(f, plan, -1))
	}
	none := slices.Repeat(lists(list(0, 0)), 3)
	for _, night := range list(-1, 3, 4, most, least) {
		checks.Expect(t, night, api.ErrArg, potOf(f, none, night))
	}
	checks.Expect(t, "no nights", api.ErrArg, potOf(api.WeekFoundry{}, nil, 0), potOf(api.WeekFoundry{}, nil, -1), potOf(api.WeekFoundry{}, lists(nil), 0))
	checks.Expect(t, "no nights", api.ErrArg, planned(api.WeekFoundry{}, lists(nil))...)
}

// P13.2 to P13.4: the room, which is there in each truth or it is not there.
func TestRoom(t *testing.T) {
	// There is room for 7 pounds, and for 1 to 3 more from the night 1 on, of which 1 is sure.
	f := api.WeekFoundry{
		Shop:   api.MetalShop{Pot: pot(20, 5, 6, 0, 0), Room: 27, TinPart: span(0, 1000), AntimonyPart: span(0, 1000), Pigs: []api.MetalPig{pig(7, 0, 0, 1, 1), pig(1, 0, 0, 1, 4)}},
		Nights: []api.WeekNight{night(1, 3, 1), night(0, 0, 1)},
	}
	for i, x := range []struct {
		plan [][]int
		want api.Errno
	}{
		{lists(list(1, 0), list(0, 0)), api.OK}, {lists(list(1, 1), list(0, 0)), api.ErrArg}, {lists(list(1, 0), list(0, 1)), api.OK}, {lists(list(1, 0), list(0, 2)), api.ErrArg},
		{lists(list(0, 4), list(1, 0)), api.ErrArg}, {lists(list(0, 1), list(1, 0)), api.OK}, {lists(list(0, 0), list(1, 1)), api.OK}, {lists(list(0, 0), list(1, 2)), api.ErrArg},
	} {
		if _, e := weeks.Safe(f, x.plan); e != x.want {
			t.Errorf("%d: Safe(%v) = %d, want %d", i, x.plan, e, x.want)
		}
	}
}

// P13.6 and P13.9: the room that there is only if it is known how much was lost.
func TestRoomThatIsKnown(t *testing.T) {
	// If two pounds are lost a pig must be added, and if none is there is no room for it.
	f := api.WeekFoundry{
		Shop:   api.MetalShop{Pot: pot(20, 5, 5, 0, 0), Room: 20, TinPart: span(205, 1000), AntimonyPart: span(0, 1000), Pigs: []api.MetalPig{pig(1, 1, 0, 4, 1)}},
		Nights: []api.WeekNight{night(0, 2, 0), night(0, 0, 1)},
	}
	if n, e := weeks.Known(f); n != 4 || e != api.OK {
		t.Errorf("Known = %d, %d", n, e)
	}
	checks.Expect(t, f, api.ErrNone, blind(f)...)
	f.Shop.Room = 21
	if n, e := weeks.Cheap(f); n != 4 || e != api.OK {
		t.Errorf("Cheap = %d, %d", n, e)
	}
}

// P13.2 to P13.5
func TestPlanned(t *testing.T) {
	p, tin, antimony, e := weeks.Pot(foundryW(), lists(list(0), list(0), list(1)), 2)
	if p != span(107, 108) || tin != span(6, 8) || antimony != span(14, 15) || e != api.OK {
		t.Errorf("Pot = %v, %v, %v, %d", p, tin, antimony, e)
	}
	// On the second night both is within its limits in some truth, but in none on both nights.
	turns := api.WeekFoundry{Shop: api.MetalShop{Pot: pot(100, 9, 10, 0, 0), Room: 100, TinPart: span(91, 100)}, Nights: []api.WeekNight{night(5, 5, 0), night(0, 0, 0)}}
	twice := changed(turns, func(f *api.WeekFoundry) { f.Shop.TinPart, f.Nights[0] = span(90, 90), night(0, 1, 0) })
	for i, x := range []struct {
		f     api.WeekFoundry
		plan  [][]int
		safe  int
		fails []int
	}{
		{foundryW(), lists(list(0), list(0), list(1)), api.Surely, nil}, {foundryW(), lists(list(0), list(1), list(0)), api.Perhaps, list(1)}, {foundryW(), lists(list(1), list(0), list(0)), api.Never, list(0, 1)},
		{foundryW(), lists(list(0), list(0), list(0)), api.Perhaps, list(2)}, {foundryU(), lists(list(0), list(0), list(1)), api.Perhaps, list(2)}, {foundryU(), lists(list(2), list(0), list(0)), api.Never, list(0, 1, 2)},
		{api.WeekFoundry{}, nil, api.Surely, nil}, {turns, lists(nil, nil), api.Never, list(0, 1)}, {twice, lists(nil, nil), api.Perhaps, list(0, 1)},
		{changed(turns, func(f *api.WeekFoundry) { f.Nights = nil }), nil, api.Surely, nil},
	} {
		k, e := weeks.Safe(x.f, x.plan)
		l, g := weeks.Fails(x.f, x.plan)
		if k != x.safe || e != api.OK || !slices.Equal(l, x.fails) || g != api.OK {
			t.Errorf("%d: Safe = %d, %d, want %d; Fails = %v, %d, want %v", i, k, e, x.safe, l, g, x.fails)
		}
	}
	for i, x := range []struct {
		f    api.WeekFoundry
		want int
	}{
		{foundryW(), 2}, {foundryU(), 2}, {api.WeekFoundry{}, 0}, {turns, 0}, {api.WeekFoundry{Nights: make([]api.WeekNight, 4)}, 4},
		{withW(func(f *api.WeekFoundry) { f.Nights = f.Nights[:1] }), 1}, {withW(func(f *api.WeekFoundry) { f.Nights[0].Dross.High = 3 }), 1}, {withW(func(f *api.WeekFoundry) { f.Nights[1].Dross.Low = 0; f.Nights[1].Dross.High = 0 }), 3},
	} {
		if n, e := weeks.Last(x.f); n != x.want || e != api.OK {
			t.Errorf("%d: Last = %d, %d, want %d", i, n, e, x.want)
		}
	}
}

// worn has 10 pounds of tin in 100, of which 2 are lost each night; from below 7 parts of a hundred it must be mended, with pigs of tin.
func worn(nights int, pigs ...api.MetalPig) api.WeekFoundry {
	return api.WeekFoundry{
		Shop:   api.MetalShop{Pot: pot(100, 10, 10, 0, 0), Room: 200, TinPart: span(70, 200), AntimonyPart: span(0, 1000), Pigs: pigs},
		Nights: slices.Repeat([]api.WeekNight{night(2, 2, 0)}, nights),
	}
}

// P13.6 to P13.8
func TestSafest(t *testing.T) {
	for i, x := range []struct {
		f           api.WeekFoundry
		cheap, once int
		plan        [][]int
	}{
		{foundryW(), 20, 1, lists(list(0), list(0), list(1))}, {api.WeekFoundry{}, 0, 0, nil}, {largest(), 1063, 1, lists(list(0, 0, 5, 5), list(0, 1, 0, 0), list(0, 0, 0, 0), list(0, 0, 0, 0))},
		{worn(2, pig(1, 1, 0, 5, 5)), 0, 0, lists(list(0), list(0))},
		// On the night 2 one pound of tin is enough, so that less is added on the first nights; all could be added at once.
		{worn(4, pig(1, 1, 0, 5, 5)), 15, 1, lists(list(0), list(0), list(1), list(2))},
		{worn(4, pig(1, 1, 0, 5, 1), pig(2, 2, 0, 9, 1), pig(8, 8, 0, 15, 1)), 14, 1, lists(list(0, 0, 0), list(0, 0, 0), list(0, 1, 0), list(1, 0, 0))},
		{worn(4, pig(1, 1, 0, 5, 1), pig(2, 2, 0, 9, 1), pig(8, 8, 0, 14, 1)), 14, 1, lists(list(0, 0, 0), list(0, 0, 0), list(0, 0, 1), list(0, 0, 0))},
		// Of what costs the same, the last kind.
		{worn(3, pig(1, 1, 0, 5, 1), pig(1, 1, 0, 5, 1)), 5, 1, lists(list(0, 0), list(0, 0), list(0, 1))},
		{worn(3, pig(1, 1, 0, 0, 1), pig(1, 1, 0, 0, 5)), 0, 1, lists(list(0, 0), list(0, 0), list(0, 1))},
	} {
		cheap, e := weeks.Cheap(x.f)
		plan, g := weeks.Plan(x.f)
		once, h := weeks.Once(x.f)
		if cheap != x.cheap || e != api.OK || !samePlan(plan, x.plan) || g != api.OK || once != x.once || h != api.OK {
			t.Errorf("%d: Cheap = %d, %d, want %d; Plan = %v, %d, want %v; Once = %d, %d, want %d", i, cheap, e, x.cheap, plan, g, x.plan, once, h, x.once)
		}
	}
	// Behind the night 1 the first choices that are safe, and cost as much, have fewer pigs of the kind 1.
	turn := api.WeekFoundry{
		Shop:   api.MetalShop{Pot: pot(33, 9, 9, 3, 3), Room: 73, TinPart: span(265, 330), AntimonyPart: span(61, 111), Pigs: []api.MetalPig{pig(6, 3, 1, 1, 2), pig(4, 2, 0, 0, 1)}},
		Nights: []api.WeekNight{night(0, 1, 0), night(1, 1, 0), night(1, 2, 0)},
	}
	if plan, e := weeks.Plan(turn); !samePlan(plan, lists(list(0, 0), list(0, 1), list(1, 0))) || e != api.OK {
		t.Errorf("Plan = %v, %d", plan, e)
	}
	// A pig is just what is lost in a night, and two are too much as long as it is not lost.
	often := changed(worn(4, pig(2, 2, 0, 7, 5)), func(f *api.WeekFoundry) { f.Shop.TinPart = span(85, 105) })
	cheap, e := weeks.Cheap(often)
	plan, g := weeks.Plan(often)
	once, h := weeks.Once(often)
	if want := lists(list(0), list(1), list(1), list(1)); cheap != 21 || !samePlan(plan, want) || once != 3 || e+g+h != api.OK {
		t.Errorf("Cheap = %d, %d; Plan = %v, %d; Once = %d, %d", cheap, e, plan, g, once, h)
	}
	for _, f := range []api.WeekFoundry{foundryU(), foundryV(), worn(4, pig(1, 1, 0, 5, 2)), worn(4), worn(4, pig(40, 0, 0, 0, 5))} {
		checks.Expect(t, f, api.ErrNone, blind(f)...)
		checks.Expect(t, f, api.ErrNone, worth(f))
	}
}

// P13.9 to P13.11
func TestKnown(t *testing.T) {
	// If two pounds are lost a pig must be added ahead of the second night, if none is none can be, and if one is it makes no difference.
	either := api.WeekFoundry{
		Shop:   api.MetalShop{Pot: pot(50, 10, 10, 0, 0), Room: 60, TinPart: span(180, 200), AntimonyPart: span(0, 0), Pigs: []api.MetalPig{pig(1, 1, 0, 9, 1)}},
		Nights: []api.WeekNight{night(0, 2, 0), night(0, 0, 0), night(0, 0, 0)},
	}
	// M of chapter 1, for one night: nobody needs to add for 60 pence who knows the truth.
	dear := api.WeekFoundry{
		Shop: api.MetalShop{
			Pot: pot(200, 6, 8, 28, 30), Room: 300, TinPart: span(40, 60), AntimonyPart: span(120, 160),
			Pigs: []api.MetalPig{pig(10, 5, 0, 30, 3), pig(20, 1, 6, 25, 2), pig(25, 0, 0, 5, 2)},
		},
		Nights: []api.WeekNight{night(0, 0, 0)},
	}
	// Of three pounds that are lost four can be mended for a penny, but of two only two, for a hundred pence.
	odd := api.WeekFoundry{
		Shop:   api.MetalShop{Pot: pot(50, 10, 10, 0, 0), Room: 60, TinPart: span(190, 220), AntimonyPart: span(0, 0), Pigs: []api.MetalPig{pig(4, 4, 0, 1, 1), pig(1, 1, 0, 50, 2)}},
		Nights: []api.WeekNight{night(1, 3, 0), night(0, 0, 1)},
	}
	surely := changed(either, func(f *api.WeekFoundry) { f.Shop.TinPart.High = 250 })
	for i, x := range []struct {
		f                 api.WeekFoundry
		known, worth, ask int // -1: there is none
	}{
		{foundryW(), 20, 0, 0}, {foundryU(), -1, -1, 0}, {foundryV(), 20, -1, 0}, {api.WeekFoundry{}, 0, 0, -1}, {largest(), 1063, 0, -1},
		{either, -1, -1, 1}, {tested(either, 0), -1, -1, 1}, {tested(either, 1), 9, -1, 0}, {tested(either, 2), -1, -1, 1}, {tested(either, 0, 1, 2), 9, -1, -1},
		{surely, 9, 0, 0}, {tested(surely, 1), 9, 0, 0}, {dear, 60, 0, 0}, {tested(dear, 0), 30, 30, -1}, {odd, 100, -1, 0},
	} {
		known, e := weeks.Known(x.f)
		worth, g := weeks.Worth(x.f)
		ask, h := weeks.Ask(x.f)
		if !is(known, e, x.known) || !is(worth, g, x.worth) || !is(ask, h, x.ask) {
			t.Errorf("%d: Known = %d, %d, want %d; Worth = %d, %d, want %d; Ask = %d, %d, want %d", i, known, e, x.known, worth, g, x.worth, ask, h, x.ask)
		}
	}
	for _, f := range []api.WeekFoundry{worn(4), tested(worn(4, pig(40, 0, 0, 0, 5)), 1, 2)} {
		checks.Expect(t, f, api.ErrNone, known(f), worth(f), ask(f))
	}
}

// is reports whether a call returned a number, or ErrNone if it is -1.
func is(n int, e api.Errno, want int) bool {
	if want < 0 {
		return n == 0 && e == api.ErrNone
	}
	return n == want && e == api.OK
}

// P13.2 to P13.11: TestAllCalls holds each call against what the chapter says word by word.
func TestAllCalls(t *testing.T) {
	var met struct{ surely, never, perhaps, none, cheap, known, worth, ask, later int }
	for i, f := range someFoundries(3000) {
		inAll := truths(f)
		for _, plan := range somePlans(f, 20) {
			switch checkPlanned(t, i, f, inAll, plan) {
			case api.Surely:
				met.surely++
			case api.Never:
				met.never++
			default:
				met.perhaps++
			}
		}
		best := checkSafest(t, i, f)
		pence, ok := checkKnown(t, i, f, best)
		ask, asked := checkAsk(t, i, f)
		switch {
		case !best.some && !ok:
			met.none++
		case !best.some:
			met.known++
		case pence < best.cheap:
			met.worth++
		default:
			met.cheap++
		}
		if asked {
			met.ask++
		}
		if ask > 0 {
			met.later++
		}
		if t.Failed() {
			return
		}
	}
	if min(met.surely, met.never, met.perhaps, met.cheap, met.none) < 200 || min(met.known, met.worth, met.ask, met.later) < 40 {
		t.Errorf("too few foundries of some sort: %+v", met)
	}
}

// somePlans returns so many plans of a foundry, or all of them if there are no more.
func somePlans(f api.WeekFoundry, many int) [][][]int {
	all := plans(f)
	var some [][][]int
	for i := 0; i < len(all); i += 1 + len(all)/many {
		some = append(some, all[i])
	}
	return some
}

func checkPlanned(t *testing.T, i int, f api.WeekFoundry, truths []truth, plan [][]int) int {
	t.Helper()
	want := wanted(f, truths, plan)
	for night, pots := range want.pots {
		p, tin, antimony, e := weeks.Pot(f, plan, night)
		if (pots != [3]api.Span{p, tin, antimony}) || e != api.OK {
			t.Errorf("%d: %v: Pot(%v, %d) = %v, %v, %v, %d, want %v", i, f, plan, night, p, tin, antimony, e, pots)
		}
	}
	k, e := weeks.Safe(f, plan)
	l, g := weeks.Fails(f, plan)
	if k != want.safe || e != api.OK || !slices.Equal(l, want.fails) || g != api.OK {
		t.Errorf("%d: %v, %v: Safe = %d, %d; Fails = %v, %d, want %v", i, f, plan, k, e, l, g, want)
	}
	return k
}

func checkSafest(t *testing.T, i int, f api.WeekFoundry) safest {
	t.Helper()
	nothing := slices.Repeat([][]int{make([]int, len(f.Shop.Pigs))}, len(f.Nights))
	wantLast := len(f.Nights)
	if fails := wanted(f, truths(f), nothing).fails; len(fails) > 0 {
		wantLast = fails[0]
	}
	if n, e := weeks.Last(f); n != wantLast || e != api.OK {
		t.Errorf("%d: %v: Last = %d, %d, want %d", i, f, n, e, wantLast)
	}
	want := wantSafest(f)
	if !want.some {
		checks.Expect(t, f, api.ErrNone, blind(f)...)
		return want
	}
	cheap, e := weeks.Cheap(f)
	plan, g := weeks.Plan(f)
	once, h := weeks.Once(f)
	if cheap != want.cheap || e != api.OK || !samePlan(plan, want.plan) || g != api.OK || once != want.once || h != api.OK {
		t.Errorf("%d: %v: Cheap = %d, %d; Plan = %v, %d; Once = %d, %d, want %v", i, f, cheap, e, plan, g, once, h, want)
	}
	return want
}

func checkKnown(t *testing.T, i int, f api.WeekFoundry, best safest) (int, bool) {
	t.Helper()
	want, ok := wantKnown(f)
	if !ok {
		checks.Expect(t, f, api.ErrNone, known(f), worth(f))
		return 0, false
	}
	if n, e := weeks.Known(f); n != want || e != api.OK {
		t.Errorf("%d: %v: Known = %d, %d, want %d", i, f, n, e, want)
	}
	if !best.some {
		checks.Expect(t, f, api.ErrNone, worth(f))
	} else if n, e := weeks.Worth(f); n != best.cheap-want || e != api.OK {
		t.Errorf("%d: %v: Worth = %d, %d, want %d", i, f, n, e, best.cheap-want)
	}
	return want, true
}

func checkAsk(t *testing.T, i int, f api.WeekFoundry) (int, bool) {
	t.Helper()
	want, ok := wantAsk(f)
	if !ok {
		checks.Expect(t, f, api.ErrNone, ask(f))
		return 0, false
	}
	if n, e := weeks.Ask(f); n != want || e != api.OK {
		t.Errorf("%d: %v: Ask = %d, %d, want %d", i, f, n, e, want)
	}
	return want, true
}

// R2 to R4: TestMemory looks for memory that is shared or changed, and for what one call leaves to the next one.
func TestMemory(t *testing.T) {
	// The lists have memory behind them that a call might write to.
	f := foundryW()
	f.Shop.Pigs, f.Nights = slices.Grow(f.Shop.Pigs, 4), slices.Grow(f.Nights, 4)
	given := append(slices.Grow(lists(), 4), append(slices.Grow(list(), 4), 0), append(slices.Grow(list(), 4), 1), append(slices.Grow(list(), 4), 0))
	for range 2 {
		checks.ExpectNot(t, f, api.ErrWeek, append(planned(f, given), potOf(f, given, 1), last(f), known(f), worth(f), ask(f))...)
		checks.ExpectNot(t, f, api.ErrWeek, blind(f)...)
		plan, e1 := weeks.Plan(f)
		fails, e2 := weeks.Fails(f, given)
		if !samePlan(plan, lists(list(0), list(0), list(1))) || !slices.Equal(fails, list(1)) || e1+e2 != api.OK {
			t.Errorf("Plan = %v, %d; Fails = %v, %d", plan, e1, fails, e2)
		}
		plan[0] = append(plan[0], -7)
		if !samePlan(plan[1:], lists(list(0), list(1))) {
			t.Errorf("the lists of Plan share memory: %v", plan)
		}
		for _, add := range plan {
			checks.Spoil(add, -7)
		}
		checks.Spoil(fails, -7)
		if !reflect.DeepEqual(f, foundryW()) || !samePlan(given, lists(list(0), list(1), list(0))) {
			t.Fatalf("an argument was changed: %v, %v", f, given)
		}
		if !checks.Clean(f.Shop.Pigs) || !checks.Clean(f.Nights) || !checks.Clean(given[0]) || !checks.Clean(given[1]) {
			t.Fatal("what is behind an argument was changed")
		}
	}
}

// R3
func TestNilAndEmpty(t *testing.T) {
	empty := api.WeekFoundry{Shop: api.MetalShop{Pigs: []api.MetalPig{}}, Nights: []api.WeekNight{}}
	for _, f := range []api.WeekFoundry{{}, empty} {
		for _, plan := range [][][]int{nil, lists()} {
			if k, e := weeks.Safe(f, plan); k != api.Surely || e != api.OK {
				t.Errorf("Safe = %d, %d", k, e)
			}
		}
		checks.Expect(t, f, api.OK, append(blind(f), last(f), known(f), worth(f))...)
		checks.Expect(t, f, api.ErrNone, ask(f))
		f.Nights = make([]api.WeekNight, 2)
		for _, plan := range [][][]int{make([][]int, 2), lists(list(), nil)} {
			checks.Expect(t, plan, api.OK, potOf(f, plan, 1))
			if l, e := weeks.Fails(f, plan); len(l) > 0 || e != api.OK {
				t.Errorf("Fails = %v, %d", l, e)
			}
		}
		if plan, e := weeks.Plan(f); !samePlan(plan, lists(nil, nil)) || e != api.OK {
			t.Errorf("Plan = %v, %d", plan, e)
		}
	}
}
