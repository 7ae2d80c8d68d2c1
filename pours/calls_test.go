package pours_test

import (
	"math"
	"slices"
	"testing"

	"flong/api"
	"flong/checks"
	"flong/pours"
)

const most, least = math.MaxInt, math.MinInt

func good(s api.PourShop, order []int) checks.Answer {
	ok, e := pours.Good(s, order)
	return checks.Said("Good", e, !ok)
}

// ordered returns the answers of the calls that have an order, but for Good.
func ordered(s api.PourShop, order []int, job int) []checks.Answer {
	w, e := pours.Worth(s, order)
	return append(both(s, order, job), checks.Said("Worth", e, w == api.Span{}))
}

// both returns the answers of the calls that have an order and a job.
func both(s api.PourShop, order []int, job int) []checks.Answer {
	m, e1 := pours.Ready(s, order, job)
	k, e2 := pours.InTime(s, order, job)
	return []checks.Answer{checks.Said("Ready", e1, m == api.Span{}), checks.Said("InTime", e2, k == 0)}
}

// named returns the answers of the calls that have a job.
func named(s api.PourShop, job int) []checks.Answer {
	k, e1 := pours.Must(s, job)
	n, e2 := pours.Wait(s, job)
	return []checks.Answer{checks.Said("Must", e1, k == 0), checks.Said("Wait", e2, n == 0)}
}

// unlisted returns the answers of the calls that have nothing but a shop, but for Check.
func unlisted(s api.PourShop) []checks.Answer {
	b, e1 := pours.Best(s)
	o, e2 := pours.Order(s)
	n, e3 := pours.Most(s)
	l, e4 := pours.Least(s)
	q, e5 := pours.Quick(s)
	r, e6 := pours.Rule(s)
	return []checks.Answer{
		checks.Said("Best", e1, b == 0), checks.Said("Order", e2, len(o) == 0), checks.Said("Most", e3, n == 0),
		checks.Said("Least", e4, l == 0), checks.Said("Quick", e5, len(q) == 0), checks.Said("Rule", e6, len(r) == 0),
	}
}

// P5.1
func TestCheckValid(t *testing.T) {
	for i, s := range []api.PourShop{
		shopS(), {}, jobs(), jobs(job(1, 0, 0, 1, 0, 0)), jobs(job(1, 0, 9, 9, 99, 0)), alike(6, job(9, 9, 9, 9, 99, 99)), alike(6, job(9, 0, 9, 1, 0, 99)),
	} {
		if e := pours.Check(s); e != api.OK {
			t.Errorf("%d: Check(%v) = %d", i, s, e)
		}
	}
}

// invalid has shops that are not valid, each by one number or one length.
func invalid() []api.PourShop {
	var shops []api.PourShop
	add := func(change func(s *api.PourShop, n int), numbers ...int) {
		for _, n := range numbers {
			shops = append(shops, withS(func(s *api.PourShop) { change(s, n) }))
		}
	}
	for i := range 3 {
		add(func(s *api.PourShop, n int) { s.Jobs[i].Beat = n }, 0, -1, 10, most, least)
		add(func(s *api.PourShop, n int) { s.Jobs[i].Pour = n }, 0, -1, 10, most, least)
		add(func(s *api.PourShop, n int) { s.Jobs[i].Dry.Low = n }, -1, 5, 10, most, least)
		add(func(s *api.PourShop, n int) { s.Jobs[i].Dry.High = n }, 10, -1, most, least)
		add(func(s *api.PourShop, n int) { s.Jobs[i].Dry = span(n, n-1) }, 1, 4, 9, 10)
		add(func(s *api.PourShop, n int) { s.Jobs[i].Due = n }, -1, 100, most, least)
		add(func(s *api.PourShop, n int) { s.Jobs[i].Worth = n }, -1, 100, most, least)
	}
	add(func(s *api.PourShop, n int) { s.Jobs = slices.Repeat(s.Jobs[:1], n) }, 7, 8, 1000)
	return shops
}

// P1 and P5.1, and ErrPour ahead of all other errors
func TestCheckInvalid(t *testing.T) {
	for _, s := range invalid() {
		checks.Expect(t, s, api.ErrPour, checks.Said("Check", pours.Check(s), true))
		checks.Expect(t, s, api.ErrPour, unlisted(s)...)
		// Some of these are orders of S, and some name what only an invalid shop has.
		for _, order := range lists(nil, list(0, 1, 2), list(0, 0), list(-1), list(6, 5), list(999), list(most, least), slices.Repeat(list(0), 1000)) {
			checks.Expect(t, s, api.ErrPour, good(s, order))
			for _, n := range []int{0, -1, 6, 999, most, least} {
				checks.Expect(t, s, api.ErrPour, ordered(s, order, n)...)
			}
		}
		for _, n := range []int{0, 2, -1, 3, 6, 999, most, least} {
			checks.Expect(t, s, api.ErrPour, named(s, n)...)
		}
	}
}

// P1 and P5.2 to P5.5, P5.9 and P5.13: ErrArg, also ahead of ErrNone
func TestNotOfTheShop(t *testing.T) {
	for _, order := range lists(
		list(0, 0), list(0, 1, 0), list(1, 2, 2), list(0, 1, 2, 0), list(-1), list(0, -1), list(3), list(0, 1, 3), list(0, 1, 2, 3), list(5), list(6),
		list(most), list(least), list(0, most), slices.Repeat(list(1), 1000),
	) {
		checks.Expect(t, order, api.OK, good(shopS(), order))
		for _, n := range []int{0, 2, -1, 3} {
			checks.Expect(t, order, api.ErrArg, ordered(shopS(), order, n)...)
		}
	}
	for _, n := range []int{-1, 3, 4, 5, 6, most, least} {
		checks.Expect(t, n, api.ErrArg, named(shopS(), n)...)
		for _, order := range lists(nil, list(0), list(2, 1, 0)) {
			checks.Expect(t, n, api.ErrArg, both(shopS(), order, n)...)
		}
	}
	checks.Expect(t, "no jobs", api.ErrArg, named(api.PourShop{}, 0)...)
	checks.Expect(t, "no jobs", api.ErrArg, ordered(api.PourShop{}, list(0), 0)...)
	checks.Expect(t, "no jobs", api.ErrArg, both(api.PourShop{}, nil, 0)...)
}

// P5.2
func TestGood(t *testing.T) {
	for _, order := range lists(nil, list(), list(0), list(2), list(2, 0), list(0, 1, 2), list(2, 1, 0), list(1, 0)) {
		if ok, e := pours.Good(shopS(), order); !ok || e != api.OK {
			t.Errorf("Good(%v) = %v, %d", order, ok, e)
		}
	}
	if ok, e := pours.Good(api.PourShop{}, nil); !ok || e != api.OK {
		t.Errorf("Good of no jobs = %v, %d", ok, e)
	}
}

// no stands for the minutes of a plate that is not poured.
var no = span(-1, -1)

// P5.3 to P5.5
func TestReadyInTimeAndWorth(t *testing.T) {
	const surely, never, perhaps = api.Surely, api.Never, api.Perhaps
	due := func(minute int) api.PourShop { return jobs(job(1, 2, 3, 4, minute, 5)) }
	busy := jobs(job(1, 0, 0, 9, 10, 1), job(1, 0, 5, 1, 10, 2))
	for i, x := range []struct {
		s      api.PourShop
		order  []int
		ready  []api.Span
		inTime []int
		worth  api.Span
	}{
		{shopS(), list(0, 1, 2), []api.Span{span(7, 9), span(11, 13), span(14, 16)}, list(surely, never, perhaps), span(10, 18)},
		{shopS(), list(1, 0, 2), []api.Span{span(8, 10), span(6, 6), span(11, 13)}, list(perhaps, surely, surely), span(14, 24)},
		{shopS(), list(0, 2), []api.Span{span(7, 9), no, span(10, 12)}, list(surely, never, surely), span(18, 18)},
		{shopS(), list(2, 0), []api.Span{span(9, 11), no, span(5, 8)}, list(perhaps, never, surely), span(8, 18)},
		{shopS(), list(2), []api.Span{no, no, span(5, 8)}, list(never, never, surely), span(8, 8)},
		{shopS(), nil, []api.Span{no, no, no}, list(never, never, never), span(0, 0)},
		{api.PourShop{}, nil, nil, nil, span(0, 0)},
		// At its minute a plate is in time.
		{due(9), list(0), []api.Span{span(7, 8)}, list(surely), span(5, 5)}, {due(8), list(0), []api.Span{span(7, 8)}, list(surely), span(5, 5)},
		{due(7), list(0), []api.Span{span(7, 8)}, list(perhaps), span(0, 5)}, {due(6), list(0), []api.Span{span(7, 8)}, list(never), span(0, 0)},
		// A mould that is dry waits for the second man, and he waits for one that is not, even if the next one is.
		{busy, list(0, 1), []api.Span{span(10, 10), span(11, 11)}, list(surely, never), span(1, 1)},
		{busy, list(1, 0), []api.Span{span(11, 16), span(2, 7)}, list(never, surely), span(2, 2)},
		{alike(2, job(9, 0, 9, 9, 27, 3)), list(1, 0), []api.Span{span(27, 36), span(18, 27)}, list(perhaps, surely), span(3, 6)},
		{
			alike(6, job(9, 9, 9, 9, 63, 99)), list(5, 4, 3, 2, 1, 0), []api.Span{span(72, 72), span(63, 63), span(54, 54), span(45, 45), span(36, 36), span(27, 27)},
			list(never, surely, surely, surely, surely, surely), span(495, 495),
		},
	} {
		for n, want := range x.ready {
			if m, e := pours.Ready(x.s, x.order, n); want != no && (m != want || e != api.OK) || want == no && (m != api.Span{} || e != api.ErrNone) {
				t.Errorf("%d: Ready(%d) = %v, %d, want %v", i, n, m, e, want)
			}
			if k, e := pours.InTime(x.s, x.order, n); k != x.inTime[n] || e != api.OK {
				t.Errorf("%d: InTime(%d) = %d, %d, want %d", i, n, k, e, x.inTime[n])
			}
		}
		if w, e := pours.Worth(x.s, x.order); w != x.worth || e != api.OK {
			t.Errorf("%d: Worth = %v, %d, want %v", i, w, e, x.worth)
		}
	}
}

// P5.6 to P5.9
func TestBestOrders(t *testing.T) {
	const surely, never, perhaps = api.Surely, api.Never, api.Perhaps
	for i, x := range []struct {
		s     api.PourShop
		best  int
		order []int
		most  int
		must  []int
	}{
		{shopS(), 18, list(0, 2), 2, list(surely, never, surely)}, {api.PourShop{}, 0, nil, 0, nil},
		{alike(6, job(9, 9, 9, 9, 99, 99)), 594, list(0, 1, 2, 3, 4, 5), 6, slices.Repeat(list(surely), 6)},
		// The last one of all is late, so it is not done by the least order.
		{alike(6, job(9, 9, 9, 9, 71, 99)), 495, list(0, 1, 2, 3, 4), 5, slices.Repeat(list(perhaps), 6)},
		// What is worth nothing may be done or not.
		{alike(2, job(1, 0, 0, 1, 99, 0)), 0, nil, 2, list(perhaps, perhaps)},
		// A plate that is not in time in each truth is surely worth nothing.
		{jobs(job(1, 2, 3, 4, 7, 5)), 0, nil, 0, list(never)}, {jobs(job(1, 2, 3, 4, 8, 5)), 5, list(0), 1, list(surely)},
		// A job that is late is done by the least order if it makes no other one late.
		{jobs(job(1, 0, 0, 1, 0, 9), job(1, 0, 0, 1, 3, 5)), 5, list(0, 1), 1, list(never, surely)},
		{jobs(job(1, 0, 0, 1, 0, 9), job(1, 0, 0, 1, 2, 5)), 5, list(1), 1, list(never, surely)},
		// The most plates are not worth the most.
		{jobs(job(3, 0, 0, 3, 6, 9), job(1, 0, 0, 1, 2, 1), job(1, 0, 0, 1, 3, 1)), 9, list(0), 2, list(surely, never, never)},
		{jobs(job(3, 0, 0, 3, 6, 2), job(1, 0, 0, 1, 2, 1), job(1, 0, 0, 1, 3, 1)), 2, list(0), 2, list(perhaps, perhaps, perhaps)},
		{jobs(job(1, 0, 0, 1, 2, 5), job(1, 0, 0, 1, 2, 5), job(1, 0, 0, 1, 9, 3)), 8, list(0, 1, 2), 2, list(perhaps, perhaps, surely)},
	} {
		b, e1 := pours.Best(x.s)
		o, e2 := pours.Order(x.s)
		n, e3 := pours.Most(x.s)
		if b != x.best || !slices.Equal(o, x.order) || n != x.most || e1+e2+e3 != api.OK {
			t.Errorf("%d: Best = %d, %d, want %d; Order = %v, %d, want %v; Most = %d, %d, want %d", i, b, e1, x.best, o, e2, x.order, n, e3, x.most)
		}
		for n, want := range x.must {
			if k, e := pours.Must(x.s, n); k != want || e != api.OK {
				t.Errorf("%d: Must(%d) = %d, %d, want %d", i, n, k, e, want)
			}
		}
	}
}

// P5.10 to P5.12
func TestQuickOrders(t *testing.T) {
	for i, x := range []struct {
		s           api.PourShop
		least       int
		quick, rule []int
	}{
		{shopS(), 12, list(1, 2, 0), list(1, 2, 0)}, {api.PourShop{}, 0, nil, nil}, {jobs(job(2, 1, 3, 4, 0, 0)), 9, list(0), list(0)},
		{alike(6, job(9, 9, 9, 9, 0, 0)), 72, list(0, 1, 2, 3, 4, 5), list(0, 1, 2, 3, 4, 5)},
		// The order by the rule is not the least one that is as quick.
		{jobs(job(2, 0, 0, 2, 0, 0), job(1, 0, 0, 1, 0, 0)), 5, list(0, 1), list(1, 0)},
		// Of those that are alike in the rule the first one comes first, in both halves.
		{jobs(job(2, 0, 1, 5, 0, 0), job(1, 2, 2, 5, 0, 0), job(3, 0, 0, 3, 0, 0), job(1, 0, 0, 9, 0, 0)), 23, list(3, 0, 1, 2), list(3, 0, 1, 2)},
		{jobs(job(5, 0, 1, 2, 0, 0), job(5, 3, 3, 1, 0, 0), job(4, 1, 2, 1, 0, 0), job(6, 0, 0, 3, 0, 0)), 23, list(0, 1, 2, 3), list(1, 0, 2, 3)},
		// A job of which Beat is Pour is in the first half.
		{jobs(job(3, 0, 0, 2, 0, 0), job(2, 0, 4, 2, 0, 0), job(1, 0, 9, 9, 0, 0), job(9, 9, 9, 1, 0, 0)), 24, list(1, 2, 3, 0), list(1, 2, 3, 0)},
	} {
		n, e1 := pours.Least(x.s)
		q, e2 := pours.Quick(x.s)
		r, e3 := pours.Rule(x.s)
		if n != x.least || !slices.Equal(q, x.quick) || !slices.Equal(r, x.rule) || e1+e2+e3 != api.OK {
			t.Errorf("%d: Least = %d, %d, want %d; Quick = %v, %d, want %v; Rule = %v, %d, want %v", i, n, e1, x.least, q, e2, x.quick, r, e3, x.rule)
		}
	}
}

// P5.13
func TestWait(t *testing.T) {
	for i, x := range []struct {
		s     api.PourShop
		waits []int
	}{
		{shopS(), list(4, 9, 6)}, {alike(6, job(9, 9, 9, 9, 99, 99)), slices.Repeat(list(9), 6)},
		{jobs(job(1, 0, 0, 1, 5, 3)), list(3)}, {jobs(job(1, 0, 2, 1, 5, 3)), list(3)}, {jobs(job(1, 3, 3, 1, 5, 3)), list(3)},
		{jobs(job(1, 0, 0, 1, 2, 3)), list(0)}, {jobs(job(1, 0, 0, 1, 10, 3)), list(8)}, {jobs(job(1, 0, 0, 1, 11, 3)), list(9)}, {jobs(job(1, 0, 0, 1, 99, 3)), list(9)},
		// What is never in time, or worth nothing, can dry as long as it will.
		{jobs(job(1, 0, 0, 1, 1, 3)), list(9)}, {jobs(job(1, 0, 0, 1, 2, 0)), list(9)},
		// By another order it can dry longer.
		{jobs(job(1, 0, 0, 1, 10, 5), job(1, 0, 0, 1, 9, 5)), list(7, 7)},
		// Of two plates that are alike the other one is in time.
		{alike(2, job(1, 0, 0, 1, 2, 5)), list(9, 9)},
	} {
		for n, want := range x.waits {
			if m, e := pours.Wait(x.s, n); m != want || e != api.OK {
				t.Errorf("%d: Wait(%d) = %d, %d, want %d", i, n, m, e, want)
			}
		}
	}
}

// P5.2 to P5.13: TestAllCalls holds each call against what the chapter says word by word.
func TestAllCalls(t *testing.T) {
	for i, s := range slices.Concat([]api.PourShop{shopS()}, someShops(400, 4, 3), someShops(20, 6, 2)) {
		for _, order := range allOrders(s)[:min(65, len(allOrders(s)))] {
			checkOrder(t, i, s, order)
		}
		for _, order := range wholeOrders(s)[:min(24, len(wholeOrders(s)))] {
			checkOrder(t, i, s, order)
		}
		checkBest(t, i, s)
		checkQuick(t, i, s)
	}
}

func checkOrder(t *testing.T, i int, s api.PourShop, order []int) {
	t.Helper()
	all := stories(s, order)
	worth, e := pours.Worth(s, order)
	if want := over(all, func(x story) int { return x.worth }); worth != want || e != api.OK {
		t.Errorf("%d: Worth(%v, %v) = %v, %d, want %v", i, s, order, worth, e, want)
	}
	for n := range s.Jobs {
		k, e1 := pours.InTime(s, order, n)
		m, e2 := pours.Ready(s, order, n)
		ready, want := over(all, func(x story) int { return x.ready[n] }), api.OK
		if ready == no {
			ready, want = api.Span{}, api.ErrNone
		}
		if k != wantInTime(all, n) || e1 != api.OK || m != ready || e2 != want {
			t.Errorf("%d: %v, %v: InTime(%d) = %d, %d, want %d; Ready = %v, %d, want %v, %d", i, s, order, n, k, e1, wantInTime(all, n), m, e2, ready, want)
		}
	}
}

func checkBest(t *testing.T, i int, s api.PourShop) {
	t.Helper()
	all := outcomes(s)
	best, plates := wantBest(all), wantMost(all)
	b, e1 := pours.Best(s)
	o, e2 := pours.Order(s)
	n, e3 := pours.Most(s)
	if b != best[0].worth || !slices.Equal(o, best[0].order) || n != plates || e1+e2+e3 != api.OK {
		t.Errorf("%d: %v: Best = %d, %d; Order = %v, %d, want %v; Most = %d, %d, want %d", i, s, b, e1, o, e2, best[0], n, e3, plates)
	}
	for n := range s.Jobs {
		if k, e := pours.Must(s, n); k != wantMust(best, n) || e != api.OK {
			t.Errorf("%d: Must(%v, %d) = %d, %d, want %d", i, s, n, k, e, wantMust(best, n))
		}
		if len(s.Jobs) > 3 {
			continue // too many truths and orders to look at all of them for each High
		}
		if m, e := pours.Wait(s, n); m != wantWait(s, n, best[0].worth) || e != api.OK {
			t.Errorf("%d: Wait(%v, %d) = %d, %d, want %d", i, s, n, m, e, wantWait(s, n, best[0].worth))
		}
	}
}

func checkQuick(t *testing.T, i int, s api.PourShop) {
	t.Helper()
	quick, minute := wantQuick(s)
	n, e1 := pours.Least(s)
	q, e2 := pours.Quick(s)
	r, e3 := pours.Rule(s)
	if n != minute || !slices.Equal(q, quick) || !slices.Equal(r, wantRule(s)) || e1+e2+e3 != api.OK {
		t.Errorf("%d: %v: Least = %d, %d, want %d; Quick = %v, %d, want %v; Rule = %v, %d, want %v", i, s, n, e1, minute, q, e2, quick, r, e3, wantRule(s))
	}
}

// R2 to R4: TestMemory looks for memory that is shared or changed, and for what one call leaves to the next one.
func TestMemory(t *testing.T) {
	// The jobs and the order have memory behind them that a call might write to.
	s, order := shopS(), slices.Grow(list(2, 0), 4)
	s.Jobs = slices.Grow(s.Jobs, 4)
	calls := []func() ([]int, api.Errno){
		func() ([]int, api.Errno) { return pours.Order(s) },
		func() ([]int, api.Errno) { return pours.Quick(s) },
		func() ([]int, api.Errno) { return pours.Rule(s) },
	}
	for range 2 {
		unlisted(s)
		good(s, order)
		for n := range s.Jobs {
			ordered(s, order, n)
			named(s, n)
		}
		for i, want := range lists(list(0, 2), list(1, 2, 0), list(1, 2, 0)) {
			l, e := calls[i]()
			if !slices.Equal(l, want) || e != api.OK {
				t.Errorf("%d: %v, %d, want %v", i, l, e, want)
			}
			l = l[:cap(l)]
			for n := range l {
				l[n] = -7
			}
		}
		if !slices.Equal(s.Jobs, shopS().Jobs) || !slices.Equal(order, list(2, 0)) {
			t.Fatalf("an argument was changed: %v, %v", s, order)
		}
		if behind := order[2:cap(order)]; slices.Max(behind) != 0 || slices.Min(behind) != 0 {
			t.Fatalf("what is behind the order was changed: %v", behind)
		}
		for _, j := range s.Jobs[3:cap(s.Jobs)] {
			if j != (api.PourJob{}) {
				t.Fatalf("what is behind the jobs was changed: %v", j)
			}
		}
	}
}
