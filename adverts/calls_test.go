package adverts_test

import (
	"math"
	"math/rand"
	"slices"
	"testing"

	"flong/adverts"
	"flong/api"
	"flong/checks"
)

const most, least = math.MaxInt, math.MinInt

// ofBook returns the answers of the calls that have a book alone, but for Check and Measure, which can have no answer.
func ofBook(b api.AdBook) []checks.Answer {
	l, e1 := adverts.Standings(b)
	s, e2 := adverts.Owed(b)
	return []checks.Answer{checks.Said("Standings", e1, len(l) == 0), checks.Said("Owed", e2, s == api.Span{})}
}

func measure(b api.AdBook) checks.Answer {
	ad, e := adverts.Measure(b)
	return checks.Said("Measure", e, ad == 0)
}

func cost(b api.AdBook, lines, billing []int) checks.Answer {
	n, e := adverts.Cost(b, lines, billing)
	return checks.Said("Cost", e, n == 0)
}

// ofLines returns the answers of the calls that have lines alone.
func ofLines(b api.AdBook, lines []int) []checks.Answer {
	n, e1 := adverts.Bill(b, lines)
	l, e2 := adverts.Billing(b, lines)
	k, e3 := adverts.Bought(b, lines)
	return []checks.Answer{checks.Said("Bill", e1, n == 0), checks.Said("Billing", e2, len(l) == 0), checks.Said("Bought", e3, len(k) == 0)}
}

func worth(b api.AdBook, lines []int, contract int) checks.Answer {
	n, e := adverts.Worth(b, lines, contract)
	return checks.Said("Worth", e, n == 0)
}

func buy(b api.AdBook, contract int) checks.Answer {
	k, e := adverts.Buy(b, contract)
	return checks.Said("Buy", e, k == 0)
}

// ofBill returns the answers of the calls that have what was billed.
func ofBill(b api.AdBook, billed []api.AdDay) []checks.Answer {
	l, e1 := adverts.Twice(b, billed)
	m, e2 := adverts.Missing(b, billed)
	return []checks.Answer{checks.Said("Twice", e1, len(l) == 0), checks.Said("Missing", e2, len(m) == 0)}
}

// P8.1
func TestCheckValid(t *testing.T) {
	for i, b := range []api.AdBook{
		{}, bookB(), largest(), {Rate: 9, Repeat: 9}, {Rate: 9}, {Contracts: []api.AdContract{contract(0, 1, 0, 0), contract(13, 7, 99, 99), contract(0, 1, 0, 0)}},
		{Lines: []api.Span{span(0, 0), span(9, 9), span(0, 9)}},
		// What differs in one number alone is not equal.
		{Lines: []api.Span{span(0, 9), span(0, 9)}, Shown: shown(0, 0, 0, 1, 0, 0, 0, 1, 0, 0, 0, 1, 0, 0, 2)},
	} {
		if e := adverts.Check(b); e != api.OK {
			t.Errorf("%d: Check(%v) = %d", i, b, e)
		}
	}
}

// invalid has books that are not valid, each by one number or one length.
func invalid() []api.AdBook {
	var books []api.AdBook
	add := func(change func(b *api.AdBook, n int), numbers ...int) {
		for _, n := range numbers {
			books = append(books, withB(func(b *api.AdBook) { change(b, n) }))
		}
	}
	add(func(b *api.AdBook, n int) { b.Lines = slices.Repeat(b.Lines[:1], n) }, 0, 1, 4, 5, 1000)
	add(func(b *api.AdBook, n int) { b.Shown = append(b.Shown, shown(1, 9, 0, 1, 10, 0, 1, 11, 0)[:n]...) }, 2, 3)
	add(func(b *api.AdBook, n int) { b.Shown = slices.Repeat(b.Shown, n) }, 2, 1000)
	add(func(b *api.AdBook, n int) { b.Contracts = slices.Repeat(b.Contracts[:1], n) }, 4, 5, 1000)
	for i, s := range bookB().Lines {
		add(func(b *api.AdBook, n int) { b.Lines[i].Low = n }, -1, s.High+1, 10, most, least)
		add(func(b *api.AdBook, n int) { b.Lines[i].High = n }, -1, s.Low-1, 10, most, least)
		add(func(b *api.AdBook, n int) { b.Lines[i] = span(n, n) }, -1, 10, most, least)
	}
	for i, s := range bookB().Shown {
		add(func(b *api.AdBook, n int) { b.Shown[i].Ad = n }, -1, 2, 3, most, least)
		add(func(b *api.AdBook, n int) { b.Shown[i].Day = n }, -1, 14, most, least)
		add(func(b *api.AdBook, n int) { b.Shown[i].Edition = n }, -1, 3, most, least)
		add(func(b *api.AdBook, n int) { b.Shown = slices.Insert(b.Shown, n, s) }, 0, 1, 2, 3, 4, 5)
	}
	add(func(b *api.AdBook, n int) { b.Rate = n }, -1, 1, 10, most, least)
	add(func(b *api.AdBook, n int) { b.Repeat = n }, -1, 4, 10, most, least)
	for i := range bookB().Contracts {
		add(func(b *api.AdBook, n int) { b.Contracts[i].From = n }, -1, 14, most, least)
		add(func(b *api.AdBook, n int) { b.Contracts[i].Days = n }, -1, 0, 8, most, least)
		add(func(b *api.AdBook, n int) { b.Contracts[i].Room = n }, -1, 100, most, least)
		add(func(b *api.AdBook, n int) { b.Contracts[i].Pence = n }, -1, 100, most, least)
	}
	return books
}

// P1 and P8.1, and ErrAd ahead of all other errors
func TestCheckInvalid(t *testing.T) {
	many := slices.Repeat(days(0, 1), 21)
	for _, b := range invalid() {
		checks.Expect(t, b, api.ErrAd, append(ofBook(b), checks.Said("Check", adverts.Check(b), true), measure(b))...)
		checks.Expect(t, b, api.ErrAd, slices.Concat(ofBill(b, nil), ofBill(b, days(0, 1)), ofBill(b, many))...)
		for _, lines := range lists(nil, list(2, 4), list(2, 4, 1), list(-1, 4), list(2, most)) {
			checks.Expect(t, b, api.ErrAd, cost(b, lines, list(-1, -1, -1, -1)), cost(b, lines, nil), cost(b, lines, list(7)))
			checks.Expect(t, b, api.ErrAd, ofLines(b, lines)...)
			for _, n := range list(0, 1, -1, 2, most, least) {
				checks.Expect(t, b, api.ErrAd, worth(b, lines, n), buy(b, n))
			}
		}
	}
}

// P1, and ErrArg, also ahead of ErrNone
func TestNotOfTheBook(t *testing.T) {
	b, right := bookB(), list(2, 4)
	wrong := lists(nil, list(2), list(2, 4, 1), list(2, 4, -1), slices.Repeat(right, 1000))
	for _, n := range list(-1, 10, 11, most, least) {
		wrong = append(wrong, list(n, 4), list(2, n))
	}
	for _, lines := range wrong {
		checks.Expect(t, lines, api.ErrArg, cost(b, lines, list(-1, -1, -1, -1)), cost(b, lines, nil), cost(b, lines, list(9, 9, 9, 9)), worth(b, lines, 0), worth(b, lines, -1))
		checks.Expect(t, lines, api.ErrArg, ofLines(b, lines)...)
	}
	for _, n := range list(-1, 2, 3, 99, most, least) {
		checks.Expect(t, n, api.ErrArg, worth(b, right, n), buy(b, n))
	}
	empty := api.AdBook{}
	checks.Expect(t, "nothing", api.ErrArg, append(ofLines(empty, list(0)), cost(empty, list(0), nil), worth(empty, nil, 0), buy(empty, 0))...)
	for _, n := range list(21, 22, 1000) {
		checks.Expect(t, n, api.ErrArg, append(ofBill(b, make([]api.AdDay, n)), ofBill(empty, make([]api.AdDay, n))...)...)
	}
}

// P8.2
func TestStandings(t *testing.T) {
	three := slices.Repeat([]api.Span{span(1, 1)}, 3)
	for i, x := range []struct {
		b    api.AdBook
		want []api.AdDay
	}{
		{bookB(), days(0, 1, 0, 2, 1, 2, 1, 5)}, {api.AdBook{}, nil}, {api.AdBook{Lines: three}, nil}, {largest(), days(0, 7, 1, 11, 2, 12, 0, 13, 1, 13, 2, 13)},
		{api.AdBook{Lines: three, Shown: shown(2, 0, 2, 2, 0, 0, 1, 0, 1, 2, 0, 1, 1, 0, 0, 0, 1, 0)}, days(1, 0, 2, 0, 0, 1)},
		{api.AdBook{Lines: three, Shown: shown(2, 13, 0, 0, 12, 0, 1, 0, 2)}, days(1, 0, 0, 12, 2, 13)},
	} {
		if l, e := adverts.Standings(x.b); !slices.Equal(l, x.want) || e != api.OK {
			t.Errorf("%d: Standings = %v, %d, want %v", i, l, e, x.want)
		}
	}
}

// P8.3
func TestCost(t *testing.T) {
	row := single(span(2, 2), list(0, 1, 2, 4), contract(1, 2, 4, 7), contract(0, 5, 6, 0))
	other := withB(func(b *api.AdBook) { b.Shown = shown(0, 1, 2, 0, 2, 0, 1, 1, 0, 1, 3, 1) })
	for i, x := range []struct {
		b              api.AdBook
		lines, billing []int
		want           int // -1: no billing
	}{
		{bookB(), list(2, 4), list(-1, -1, -1, -1), 34}, {bookB(), list(2, 4), list(0, 0, -1, -1), 39}, {bookB(), list(2, 4), list(0, 0, 0, 0), -1}, {bookB(), list(2, 4), list(-1, 1, 1, 1), 26},
		{bookB(), list(2, 4), list(0, -1, 0, -1), 31}, {bookB(), list(2, 4), list(0, 1, 1, -1), 47}, {bookB(), list(0, 0), list(-1, -1, -1, -1), 0}, {bookB(), list(9, 9), list(-1, -1, -1, -1), 99},
		// Room for all lines together, and for one line less.
		{bookB(), list(2, 4), list(0, 0, 0, -1), 27}, {bookB(), list(2, 5), list(0, 0, 0, -1), -1}, {bookB(), list(3, 4), list(0, 0, 0, -1), -1}, {bookB(), list(8, 0), list(0, -1, 0, -1), 31},
		{bookB(), list(9, 0), list(0, -1, 0, -1), -1}, {bookB(), list(0, 9), list(-1, -1, 1, 1), 20},
		// The first day, and the last one, and those beside them.
		{row, list(2), list(-1, 0, 0, -1), 19}, {row, list(2), list(0, -1, -1, -1), -1}, {row, list(2), list(-1, -1, -1, 0), -1}, {row, list(2), list(1, -1, -1, 1), 8}, {row, list(2), list(1, 0, 0, 1), 7},
		{row, list(2), list(1, 1, -1, 1), 4}, {row, list(2), list(1, 1, 1, 1), -1}, {row, list(1), list(1, 1, 1, 1), 0}, {row, list(0), list(0, 0, 0, 0), -1}, {row, list(0), list(-1, 0, -1, -1), 7},
		// On the day before, also in another edition, but not another advertisement.
		{other, list(2, 4), list(-1, -1, -1, -1), 34}, {other, list(1, 0), list(-1, -1, -1, -1), 5}, {other, list(0, 1), list(-1, -1, -1, -1), 6},
		// No list of these numbers is a billing.
		{bookB(), list(2, 4), nil, -1}, {bookB(), list(2, 4), list(-1, -1, -1), -1}, {bookB(), list(2, 4), list(-1, -1, -1, -1, -1), -1}, {bookB(), list(2, 4), list(-1, -2, -1, -1), -1},
		{bookB(), list(2, 4), list(-1, -1, -1, 2), -1}, {bookB(), list(2, 4), list(most, least, 0, 0), -1}, {bookB(), list(2, 4), make([]int, 1000), -1}, {bookB(), list(2, 4), list(1, -1, -1, -1), -1},
		{api.AdBook{}, nil, nil, 0}, {api.AdBook{}, nil, list(-1), -1}, {largest(), list(9, 9, 9), list(-1, -1, -1, -1, -1, -1), 486}, {largest(), list(9, 9, 9), list(0, 1, 2, 2, 1, 0), 297},
	} {
		n, e := adverts.Cost(x.b, x.lines, x.billing)
		if x.want >= 0 && (n != x.want || e != api.OK) || x.want < 0 && (n != 0 || e != api.ErrNone) {
			t.Errorf("%d: Cost(%v, %v) = %d, %d, want %d", i, x.lines, x.billing, n, e, x.want)
		}
	}
}

// P8.4 to P8.7
func TestBills(t *testing.T) {
	both := []api.AdContract{contract(2, 2, 9, 1), contract(0, 2, 9, 1)}
	for i, x := range []struct {
		b      api.AdBook
		lines  []int
		pence  int
		want   []int
		bought []int
		worth  []int
	}{
		{bookB(), list(2, 4), 26, list(-1, 1, 1, 1), list(1), list(0, 1)}, {bookB(), list(3, 4), 29, list(-1, 1, 1, 1), list(1), list(0, 4)}, {bookB(), list(0, 0), 0, list(-1, -1, -1, -1), nil, list(0, 0)},
		{api.AdBook{}, nil, 0, nil, nil, nil}, {largest(), list(9, 9, 9), 99, list(0, 0, 0, 0, 0, 0), list(0), list(0, 0, 0)},
		// Of billings that cost as much the least list: single, then a contract of a lesser number, later rather than earlier.
		{single(span(2, 2), list(1), contract(1, 1, 2, 6)), list(2), 6, list(-1), nil, list(0)}, {single(span(2, 2), list(1), contract(1, 1, 2, 5)), list(2), 5, list(0), list(0), list(1)},
		{single(span(2, 2), list(1), contract(1, 1, 2, 5), contract(1, 1, 2, 5)), list(2), 5, list(0), list(0), list(0, 0)},
		{single(span(2, 2), list(1), contract(1, 1, 2, 5), contract(1, 1, 2, 3)), list(2), 3, list(1), list(1), list(0, 2)},
		{single(span(2, 2), list(1, 3), contract(0, 7, 2, 1)), list(2), 7, list(-1, 0), list(0), list(5)}, {single(span(2, 2), list(1, 3), contract(1, 1, 2, 1), contract(3, 1, 2, 1)), list(2), 2, list(0, 1), list(0, 1), list(5, 5)},
		{single(span(0, 0), list(1, 2), contract(0, 7, 0, 0)), list(0), 0, list(-1, -1), nil, list(0)},
		// The dearer standing, whose day before has none, is put under it.
		{single(span(2, 2), list(1, 2), contract(0, 7, 2, 0)), list(2), 4, list(0, -1), list(0), list(6)}, {single(span(2, 2), list(1, 2), contract(2, 1, 9, 3)), list(2), 9, list(-1, 0), list(0), list(1)},
		// A contract that is bought is paid once, however many standings are under it.
		{single(span(2, 2), list(1, 2, 3), contract(0, 7, 9, 11)), list(2), 11, list(0, 0, 0), list(0), list(3)}, {single(span(2, 2), list(1, 2, 3), contract(0, 7, 5, 11)), list(2), 14, list(-1, -1, -1), nil, list(0)},
		// Bought is ascending, whichever comes first.
		{single(span(3, 3), list(0, 1, 3), both...), list(3), 2, list(1, 1, 0), list(0, 1), list(8, 14)},
	} {
		n, e1 := adverts.Bill(x.b, x.lines)
		l, e2 := adverts.Billing(x.b, x.lines)
		k, e3 := adverts.Bought(x.b, x.lines)
		if n != x.pence || !slices.Equal(l, x.want) || !slices.Equal(k, x.bought) || e1+e2+e3 != api.OK {
			t.Errorf("%d: Bill(%v) = %d, %d, want %d; Billing = %v, %d, want %v; Bought = %v, %d, want %v", i, x.lines, n, e1, x.pence, l, e2, x.want, k, e3, x.bought)
		}
		for contract, want := range x.worth {
			if n, e := adverts.Worth(x.b, x.lines, contract); n != want || e != api.OK {
				t.Errorf("%d: Worth(%v, %d) = %d, %d, want %d", i, x.lines, contract, n, e, want)
			}
		}
	}
}

// uneven is a book with two advertisements, one shown on the day behind the other's.
func uneven(one, other api.Span, rate int, contracts ...api.AdContract) api.AdBook {
	return api.AdBook{Lines: []api.Span{one, other}, Shown: shown(0, 1, 0, 1, 2, 0), Rate: rate, Contracts: contracts}
}

// P8.8 to P8.10
func TestOwedBuyAndMeasure(t *testing.T) {
	const surely, never, perhaps = api.Surely, api.Never, api.Perhaps
	two := api.AdBook{Lines: []api.Span{span(0, 1), span(0, 3)}, Shown: shown(0, 1, 0, 1, 1, 0), Rate: 3}
	one := func(room, pence int) api.AdBook { return single(span(1, 3), list(1), contract(1, 1, room, pence)) }
	for i, x := range []struct {
		b       api.AdBook
		owed    api.Span
		buy     []int
		measure int // -1: none
	}{
		{bookB(), span(26, 29), list(never, surely), 0}, {api.AdBook{}, span(0, 0), nil, -1}, {api.AdBook{Contracts: []api.AdContract{contract(0, 7, 99, 0)}}, span(0, 0), list(never), -1},
		{api.AdBook{Lines: []api.Span{span(4, 9), span(0, 9)}, Rate: 9}, span(0, 0), nil, 0}, {largest(), span(0, 99), list(perhaps, never, never), 0},
		// As dear as single lines it is not bought.
		{one(9, 2), span(2, 2), list(surely), 0}, {one(9, 3), span(3, 3), list(perhaps), 0}, {one(9, 5), span(3, 5), list(perhaps), 0}, {one(9, 8), span(3, 8), list(perhaps), 0}, {one(9, 9), span(3, 9), list(never), 0},
		// Bought with neither the fewest nor the most lines, and with these alone.
		{one(2, 5), span(3, 9), list(perhaps), 0}, {one(2, 0), span(0, 9), list(perhaps), 0}, {one(0, 0), span(3, 9), list(never), 0},
		{api.AdBook{Lines: []api.Span{span(0, 1)}, Shown: shown(0, 0, 0), Rate: 1, Contracts: []api.AdContract{contract(0, 1, 1, 0)}}, span(0, 0), list(perhaps), 0},
		// The greatest difference that is left is the least; of several the first one.
		{two, span(0, 12), nil, 1}, {changed(two, func(b *api.AdBook) { b.Lines[0].High = 3 }), span(0, 18), nil, 0}, {changed(two, func(b *api.AdBook) { b.Lines[0].High = 4 }), span(0, 21), nil, 0},
		{changed(two, func(b *api.AdBook) { b.Shown = b.Shown[:1] }), span(0, 3), nil, 0}, {changed(two, func(b *api.AdBook) { b.Shown = b.Shown[1:] }), span(0, 9), nil, 1},
		{changed(two, func(b *api.AdBook) { b.Contracts = []api.AdContract{contract(1, 1, 9, 0)} }), span(0, 0), list(perhaps), 0},
		// Numbers of lines of one advertisement leave 1 1, of the other one 0 1 0; then 4 6 4 and 4 5 4 4.
		{uneven(span(0, 1), span(0, 2), 1, contract(1, 2, 1, 0), contract(2, 1, 2, 1)), span(0, 1), list(perhaps), 0},
		{uneven(span(2, 4), span(0, 3), 2, contract(1, 2, 3, 4), contract(2, 1, 1, 1)), span(4, 12), list(perhaps), 1},
		// One truth alone makes the difference: that with the fewest lines of the advertisement 0, and the most of the last one.
		{uneven(span(0, 1), span(1, 2), 7, contract(0, 3, 1, 4)), span(4, 18), list(perhaps), 1},
		{api.AdBook{Lines: []api.Span{span(2, 3), span(2, 2), span(1, 2)}, Shown: shown(2, 1, 2, 0, 0, 0, 1, 1, 0), Rate: 4, Contracts: []api.AdContract{contract(1, 3, 4, 15), contract(0, 4, 7, 26)}}, span(20, 26), list(perhaps, perhaps), 0},
	} {
		s, e := adverts.Owed(x.b)
		if s != x.owed || e != api.OK {
			t.Errorf("%d: Owed = %v, %d, want %v", i, s, e, x.owed)
		}
		for contract, want := range x.buy {
			if k, e := adverts.Buy(x.b, contract); k != want || e != api.OK {
				t.Errorf("%d: Buy(%d) = %d, %d, want %d", i, contract, k, e, want)
			}
		}
		ad, e := adverts.Measure(x.b)
		if x.measure >= 0 && (ad != x.measure || e != api.OK) || x.measure < 0 && (ad != 0 || e != api.ErrNone) {
			t.Errorf("%d: Measure = %d, %d, want %d", i, ad, e, x.measure)
		}
	}
}

// P8.11 and P8.12
func TestTwiceAndMissing(t *testing.T) {
	all := days(0, 1, 0, 2, 1, 2, 1, 5)
	for i, x := range []struct {
		b       api.AdBook
		billed  []api.AdDay
		twice   []int
		missing []api.AdDay
	}{
		{bookB(), days(0, 1, 1, 5, 0, 1, 1, 1), list(2, 3), days(0, 2, 1, 2)}, {bookB(), nil, nil, all}, {bookB(), all, nil, nil}, {bookB(), days(1, 5, 1, 2, 0, 2, 0, 1), nil, nil},
		{bookB(), days(-1, 1, 2, 2, most, least, 0, -1, 0, 14, 0, 5, 5, 1), list(0, 1, 2, 3, 4, 5, 6), all}, {bookB(), days(1, 5, 1, 5, 1, 5, 3, 3, 3, 3), list(1, 2, 3, 4), all[:3]},
		{bookB(), slices.Repeat(all, 5), list(4, 5, 6, 7, 8, 9, 10, 11, 12, 13, 14, 15, 16, 17, 18, 19), nil}, {bookB(), slices.Repeat(all[3:], 20)[:2], list(1), all[:3]},
		{api.AdBook{}, days(0, 0, 0, 0), list(0, 1), nil}, {api.AdBook{}, nil, nil, nil}, {largest(), days(2, 13, 1, 13, 0, 13, 2, 13), list(3), days(0, 7, 1, 11, 2, 12)},
	} {
		l, e1 := adverts.Twice(x.b, x.billed)
		m, e2 := adverts.Missing(x.b, x.billed)
		if !slices.Equal(l, x.twice) || !slices.Equal(m, x.missing) || e1+e2 != api.OK {
			t.Errorf("%d: Twice(%v) = %v, %d, want %v; Missing = %v, %d, want %v", i, x.billed, l, e1, x.twice, m, e2, x.missing)
		}
	}
}

// P8.2 to P8.12: TestAllCalls holds each call against what the chapter says word by word.
func TestAllCalls(t *testing.T) {
	r := rand.New(rand.NewSource(88))
	for i, b := range slices.Concat(someBooks(1000, 5), someBooks(60, 6)) {
		if l, e := adverts.Standings(b); !slices.Equal(l, wantStandings(b)) || e != api.OK {
			t.Errorf("%d: %v: Standings = %v, %d", i, b, l, e)
		}
		for _, lines := range someLines(r, b) {
			checkLines(t, i, b, lines)
		}
		for range 4 {
			checkBilled(t, i, b, someBilled(r, b))
		}
	}
	for i, b := range someBooks(500, 4) {
		if len(wantTruths(b)) <= 60 {
			checkTruths(t, i, b)
		}
	}
}

func checkLines(t *testing.T, i int, b api.AdBook, lines []int) {
	t.Helper()
	want, pence := wantBest(b, lines)
	n, e1 := adverts.Bill(b, lines)
	l, e2 := adverts.Billing(b, lines)
	k, e3 := adverts.Bought(b, lines)
	if n != pence || !slices.Equal(l, want) || !slices.Equal(k, wantBought(want)) || e1+e2+e3 != api.OK {
		t.Errorf("%d: %v: Bill(%v) = %d, %d, want %d; Billing = %v, %d, want %v; Bought = %v, %d", i, b, lines, n, e1, pence, l, e2, want, k, e3)
	}
	for contract := range b.Contracts {
		_, more := wantBest(without(b, contract), lines)
		if n, e := adverts.Worth(b, lines, contract); n != more-pence || e != api.OK {
			t.Errorf("%d: %v: Worth(%v, %d) = %d, %d, want %d", i, b, lines, contract, n, e, more-pence)
		}
	}
	all := wantLists(len(want), len(b.Contracts))
	for n := i % 7; n < len(all); n += 7 {
		checkCost(t, i, b, lines, all[n])
	}
	checkCost(t, i, b, lines, append(slices.Clone(want), -1))
}

func checkCost(t *testing.T, i int, b api.AdBook, lines, billing []int) {
	t.Helper()
	want, ok := wantCost(b, lines, billing)
	n, e := adverts.Cost(b, lines, billing)
	if ok && (n != want || e != api.OK) || !ok && (n != 0 || e != api.ErrNone) {
		t.Errorf("%d: %v: Cost(%v, %v) = %d, %d, want %d, %v", i, b, lines, billing, n, e, want, ok)
	}
}

// someBilled returns standings of a book, and others, some of them more than once.
func someBilled(r *rand.Rand, b api.AdBook) []api.AdDay {
	all := append(wantStandings(b), days(r.Intn(4)-1, r.Intn(16)-1, r.Intn(3), r.Intn(14))...)
	var some []api.AdDay
	for range r.Intn([]int{4, 10, 21}[r.Intn(3)]) {
		some = append(some, all[r.Intn(len(all))])
	}
	return some
}

func checkBilled(t *testing.T, i int, b api.AdBook, billed []api.AdDay) {
	t.Helper()
	l, e1 := adverts.Twice(b, billed)
	m, e2 := adverts.Missing(b, billed)
	if !slices.Equal(l, wantTwice(b, billed)) || !slices.Equal(m, wantMissing(b, billed)) || e1+e2 != api.OK {
		t.Errorf("%d: %v: Twice(%v) = %v, %d; Missing = %v, %d", i, b, billed, l, e1, m, e2)
	}
}

func checkTruths(t *testing.T, i int, b api.AdBook) {
	t.Helper()
	truths := wantBilled(b)
	if s, e := adverts.Owed(b); s != wantOwed(truths) || e != api.OK {
		t.Errorf("%d: %v: Owed = %v, %d, want %v", i, b, s, e, wantOwed(truths))
	}
	for contract := range b.Contracts {
		if k, e := adverts.Buy(b, contract); k != wantBuy(truths, contract) || e != api.OK {
			t.Errorf("%d: %v: Buy(%d) = %d, %d, want %d", i, b, contract, k, e, wantBuy(truths, contract))
		}
	}
	if len(b.Lines) == 0 {
		checks.Expect(t, b, api.ErrNone, measure(b))
		return
	}
	if ad, e := adverts.Measure(b); ad != wantMeasure(b, truths) || e != api.OK {
		t.Errorf("%d: %v: Measure = %d, %d, want %d", i, b, ad, e, wantMeasure(b, truths))
	}
}

// R2 to R4: TestMemory looks for memory that is shared or changed, and for what one call leaves to the next one.
func TestMemory(t *testing.T) {
	// The lists have memory behind them that a call might write to.
	b, lines, billing, billed := bookB(), slices.Grow(list(2, 4), 4), slices.Grow(list(-1, 1, 1, 1), 4), slices.Grow(days(1, 5, 0, 9), 4)
	b.Lines, b.Shown, b.Contracts = slices.Grow(b.Lines, 4), slices.Grow(b.Shown, 4), slices.Grow(b.Contracts, 4)
	calls := []func() ([]int, api.Errno){
		func() ([]int, api.Errno) { return adverts.Billing(b, lines) },
		func() ([]int, api.Errno) { return adverts.Bought(b, lines) },
		func() ([]int, api.Errno) { return adverts.Twice(b, billed) },
	}
	standings := []func() ([]api.AdDay, api.Errno){
		func() ([]api.AdDay, api.Errno) { return adverts.Standings(b) },
		func() ([]api.AdDay, api.Errno) { return adverts.Missing(b, billed) },
	}
	for range 2 {
		for n := range 2 {
			checks.ExpectNot(t, b, api.ErrArg, cost(b, lines, billing), worth(b, lines, n), buy(b, n), measure(b))
			checks.ExpectNot(t, b, api.ErrArg, ofBook(b)...)
		}
		for i, want := range lists(list(-1, 1, 1, 1), list(1), list(1)) {
			l, e := calls[i]()
			if !slices.Equal(l, want) || e != api.OK {
				t.Errorf("%d: %v, %d, want %v", i, l, e, want)
			}
			checks.Spoil(l, -7)
		}
		for i, want := range [][]api.AdDay{days(0, 1, 0, 2, 1, 2, 1, 5), days(0, 1, 0, 2, 1, 2)} {
			l, e := standings[i]()
			if !slices.Equal(l, want) || e != api.OK {
				t.Errorf("%d: %v, %d, want %v", i, l, e, want)
			}
			checks.Spoil(l, api.AdDay{Ad: -7, Day: -7})
		}
		if !same(b, bookB()) || !slices.Equal(lines, list(2, 4)) || !slices.Equal(billing, list(-1, 1, 1, 1)) || !slices.Equal(billed, days(1, 5, 0, 9)) {
			t.Fatalf("an argument was changed: %v, %v, %v, %v", b, lines, billing, billed)
		}
		if !checks.Clean(b.Lines) || !checks.Clean(b.Shown) || !checks.Clean(b.Contracts) || !checks.Clean(lines) || !checks.Clean(billing) || !checks.Clean(billed) {
			t.Fatal("what is behind an argument was changed")
		}
	}
}

func same(one, other api.AdBook) bool {
	return slices.Equal(one.Lines, other.Lines) && slices.Equal(one.Shown, other.Shown) && slices.Equal(one.Contracts, other.Contracts) &&
		one.Rate == other.Rate && one.Repeat == other.Repeat
}

// R3
func TestNilAndEmpty(t *testing.T) {
	empty := api.AdBook{Lines: []api.Span{}, Shown: []api.AdShown{}, Contracts: []api.AdContract{}}
	for _, b := range []api.AdBook{{}, empty} {
		checks.Expect(t, b, api.OK, append(ofBook(b), checks.Said("Check", adverts.Check(b), true))...)
		checks.Expect(t, b, api.ErrNone, measure(b))
		for _, l := range lists(nil, list()) {
			checks.Expect(t, b, api.OK, append(ofLines(b, l), cost(b, l, nil), cost(b, l, list()))...)
			checks.Expect(t, bookB(), api.ErrArg, append(ofLines(bookB(), l), cost(bookB(), l, nil), worth(bookB(), l, 0))...)
			checks.Expect(t, bookB(), api.ErrNone, cost(bookB(), list(2, 4), l))
		}
		for _, billed := range [][]api.AdDay{nil, {}} {
			checks.Expect(t, b, api.OK, ofBill(b, billed)...)
			if l, e := adverts.Missing(bookB(), billed); len(l) != 4 || e != api.OK {
				t.Errorf("Missing = %v, %d", l, e)
			}
		}
	}
	// A book without contracts, whether the list is nil or empty.
	for _, none := range [][]api.AdContract{nil, {}} {
		b := withB(func(b *api.AdBook) { b.Contracts = none })
		if n, e := adverts.Bill(b, list(2, 4)); n != 34 || e != api.OK {
			t.Errorf("Bill = %d, %d", n, e)
		}
	}
}
