package pages_test

import (
	"math"
	"slices"
	"testing"

	"flong/api"
	"flong/checks"
	"flong/pages"
)

const most, least = math.MaxInt, math.MinInt

func fits(f api.PageFrame, column int, set []int) checks.Answer {
	k, e := pages.Fits(f, column, set)
	return checks.Said("Fits", e, k == 0)
}

func takes(f api.PageFrame, column int, p api.PagePiece) checks.Answer {
	ok, e := pages.Takes(f, column, p)
	return checks.Said("Takes", e, !ok)
}

// ofColumn returns the answers of the calls that have a column and nothing else.
func ofColumn(f api.PageFrame, column int) []checks.Answer {
	c, e1 := pages.Column(f, column)
	r, e2 := pages.Room(f, column)
	return []checks.Answer{checks.Said("Column", e1, c == api.Span{}), checks.Said("Room", e2, r == api.Span{})}
}

// locked returns the answers of the calls that need a layout of the whole page.
func locked(f api.PageFrame) []checks.Answer {
	n, e1 := pages.Strips(f)
	l, e2 := pages.Lock(f)
	return []checks.Answer{checks.Said("Strips", e1, n == 0), checks.Said("Lock", e2, len(l) == 0)}
}

// refused returns the answers of the calls that leave pieces out.
func refused(f api.PageFrame) []checks.Answer {
	l, e1 := pages.Refuse(f)
	n, e2 := pages.Lost(f)
	return []checks.Answer{checks.Said("Refuse", e1, len(l) == 0), checks.Said("Lost", e2, n == 0)}
}

func grow(f api.PageFrame, piece int) checks.Answer {
	n, e := pages.Grow(f, piece)
	return checks.Said("Grow", e, n == 0)
}

// ofPieces returns the answers of the calls that have two pieces.
func ofPieces(f api.PageFrame, one, other int) []checks.Answer {
	g, e1 := pages.Gap(f, one, other)
	k, e2 := pages.Meets(f, one, other)
	return []checks.Answer{checks.Said("Gap", e1, g == api.Span{}), checks.Said("Meets", e2, k == 0)}
}

// P3.1
func TestCheckValid(t *testing.T) {
	for i, f := range []api.PageFrame{
		frameP(), frameO(), largest(), {}, {Length: 300, Slack: 9}, {Slack: 9}, {Columns: lists(nil, list(), nil)}, {Strips: []api.PageStrip{strip(1, 0), strip(30, 4), strip(30, 4)}},
		withP(func(f *api.PageFrame) { f.Columns = lists(list(3, 1), nil, list(0, 2)) }), withP(func(f *api.PageFrame) { f.Columns = lists(list(3, 2, 1, 0)) }),
		withP(func(f *api.PageFrame) { f.Pieces[0], f.Pieces[1] = piece(0, 99, 0), piece(99, 99, 99) }), withP(func(f *api.PageFrame) { f.Pieces[2] = piece(0, 0, 0) }),
		withP(func(f *api.PageFrame) { f.Strips = nil }), withP(func(f *api.PageFrame) { f.Length, f.Slack = 0, 0 }),
		single(300, 0, slices.Repeat([]api.PagePiece{piece(99, 99, 99)}, 6), strip(30, 4)),
	} {
		if e := pages.Check(f); e != api.OK {
			t.Errorf("%d: Check(%v) = %d", i, f, e)
		}
	}
}

// invalid has frames that are not valid, each by one number or one length.
func invalid() []api.PageFrame {
	var frames []api.PageFrame
	add := func(change func(f *api.PageFrame, n int), numbers ...int) {
		for _, n := range numbers {
			frames = append(frames, withP(func(f *api.PageFrame) { change(f, n) }))
		}
	}
	add(func(f *api.PageFrame, n int) { f.Length = n }, -1, 301, most, least)
	add(func(f *api.PageFrame, n int) { f.Slack = n }, -1, 10, most, least)
	for kind := range 3 {
		add(func(f *api.PageFrame, n int) { f.Strips[kind].Thick = n }, 0, -1, 31, most, least)
		add(func(f *api.PageFrame, n int) { f.Strips[kind].Many = n }, -1, 5, most, least)
	}
	for i, p := range frameP().Pieces {
		add(func(f *api.PageFrame, n int) { f.Pieces[i].Height.Low = n }, -1, p.Height.High+1, most, least)
		add(func(f *api.PageFrame, n int) { f.Pieces[i].Height.High = n }, -1, p.Height.Low-1, 100, most, least)
		add(func(f *api.PageFrame, n int) { f.Pieces[i].Height = span(n, n) }, -1, 100, most, least)
		add(func(f *api.PageFrame, n int) { f.Pieces[i].Pence = n }, -1, 100, most, least)
		for column := range 2 {
			add(func(f *api.PageFrame, n int) { f.Columns[column] = append(f.Columns[column], n) }, i)
		}
		add(func(f *api.PageFrame, n int) { f.Columns[i/2][i%2] = n }, -1, 4, (i+1)%4, most, least)
		add(func(f *api.PageFrame, n int) { f.Columns[n] = slices.Delete(f.Columns[n], i%2, i%2+1) }, i/2)
	}
	add(func(f *api.PageFrame, n int) { f.Strips = slices.Repeat(f.Strips[:1], n) }, 4, 1000)
	add(func(f *api.PageFrame, n int) {
		*f = single(60, 2, make([]api.PagePiece, n))
	}, 7, 1000)
	add(func(f *api.PageFrame, n int) { f.Pieces = f.Pieces[:n] }, 0, 3)
	add(func(f *api.PageFrame, n int) { f.Pieces = append(f.Pieces, make([]api.PagePiece, n)...) }, 1, 2)
	add(func(f *api.PageFrame, n int) { f.Columns = append(f.Columns, make([][]int, n)...) }, 2, 1000)
	add(func(f *api.PageFrame, n int) { f.Columns[1] = append(f.Columns[1], n) }, 4, -1, most, least)
	add(func(f *api.PageFrame, n int) { f.Columns = f.Columns[:n] }, 0, 1)
	return append(frames, api.PageFrame{Columns: lists(list(0))}, api.PageFrame{Pieces: make([]api.PagePiece, 1)}, api.PageFrame{Pieces: make([]api.PagePiece, 1), Columns: lists(nil)})
}

// P1 and P3.1, and ErrPage ahead of all other errors
func TestCheckInvalid(t *testing.T) {
	for _, f := range invalid() {
		checks.Expect(t, f, api.ErrPage, checks.Said("Check", pages.Check(f), true))
		checks.Expect(t, f, api.ErrPage, locked(f)...)
		checks.Expect(t, f, api.ErrPage, refused(f)...)
		for _, n := range []int{0, 1, -1, 4, most, least} {
			checks.Expect(t, f, api.ErrPage, ofColumn(f, n)...)
			checks.Expect(t, f, api.ErrPage, ofPieces(f, n, 0)...)
			checks.Expect(t, f, api.ErrPage, ofPieces(f, 0, n)...)
			checks.Expect(t, f, api.ErrPage, grow(f, n), takes(f, n, piece(0, 0, 0)), takes(f, n, piece(-1, least, most)))
			for _, set := range [][]int{list(0, 0, 0), nil, list(-1), list(most, least, most)} {
				checks.Expect(t, f, api.ErrPage, fits(f, n, set))
			}
		}
	}
}

// notSets has lists that are no sets of strips of P.
func notSets() [][]int {
	return lists(
		nil, list(), list(0), list(0, 0), list(0, 0, 0, 0), make([]int, 1000),
		list(3, 0, 0), list(0, 3, 0), list(0, 0, 2), list(-1, 0, 0), list(0, -1, 0), list(0, 0, -1), list(2, 2, 2), list(3, -1, 0),
		list(most, 0, 0), list(0, most, 0), list(0, 0, most), list(least, 0, 0), list(0, least, 0), list(0, 0, least), list(most, most, least),
	)
}

// P1, P3.2 to P3.4, P3.7 and P3.10 to P3.12: ErrArg, also ahead of ErrNone
func TestNotOfTheFrame(t *testing.T) {
	short := withP(func(f *api.PageFrame) { f.Length = 10 })
	for _, f := range []api.PageFrame{frameP(), short} {
		for _, n := range []int{-1, 2, 3, most, least} {
			checks.Expect(t, n, api.ErrArg, ofColumn(f, n)...)
			checks.Expect(t, n, api.ErrArg, fits(f, n, list(0, 0, 0)), takes(f, n, piece(0, 0, 0)))
		}
		for _, n := range []int{-1, 4, 5, most, least} {
			checks.Expect(t, n, api.ErrArg, grow(f, n))
			for _, other := range []int{0, 3, -1, 4, most, least} {
				checks.Expect(t, n, api.ErrArg, ofPieces(f, n, other)...)
				checks.Expect(t, n, api.ErrArg, ofPieces(f, other, n)...)
			}
		}
		for _, set := range notSets() {
			checks.Expect(t, set, api.ErrArg, fits(f, 0, set), fits(f, 1, set))
		}
		for _, p := range []api.PagePiece{
			piece(-1, 0, 0), piece(-1, -1, 0), piece(2, 1, 0), piece(0, 100, 0), piece(100, 100, 0), piece(0, 0, -1), piece(0, 0, 100),
			piece(least, 0, 0), piece(0, most, 0), piece(0, 0, most), piece(0, 0, least), piece(most, least, 0), piece(least, most, 0),
		} {
			checks.Expect(t, p, api.ErrArg, takes(f, 0, p), takes(f, 1, p))
		}
	}
	empty := api.PageFrame{}
	checks.Expect(t, "nothing", api.ErrArg, grow(empty, 0), fits(empty, 0, nil), takes(empty, 0, piece(0, 0, 0)))
	checks.Expect(t, "nothing", api.ErrArg, ofColumn(empty, 0)...)
	checks.Expect(t, "nothing", api.ErrArg, ofPieces(empty, 0, 0)...)
	full := single(0, 0, make([]api.PagePiece, 6))
	checks.Expect(t, "too many pieces", api.ErrArg, takes(full, 0, piece(0, 0, 0)))
	if ok, e := pages.Takes(without(full, list(5)), 0, piece(0, 0, 0)); !ok || e != api.OK {
		t.Errorf("Takes of five pieces = %v, %d", ok, e)
	}
}

// P3.2 and P3.4
func TestColumnAndRoom(t *testing.T) {
	for i, x := range []struct {
		f            api.PageFrame
		column       int
		height, room api.Span // a room with High -1: there is none
	}{
		{frameP(), 0, span(50, 51), span(8, 9)}, {frameP(), 1, span(52, 54), span(6, 6)}, {frameO(), 1, span(52, 54), span(6, 6)},
		{withP(func(f *api.PageFrame) { f.Slack = 1 }), 0, span(50, 51), span(9, 9)}, {withP(func(f *api.PageFrame) { f.Slack = 1 }), 1, span(52, 54), span(0, -1)},
		{withP(func(f *api.PageFrame) { f.Slack = 0 }), 0, span(50, 51), span(0, -1)}, {withP(func(f *api.PageFrame) { f.Slack = 9 }), 1, span(52, 54), span(0, 6)},
		{withP(func(f *api.PageFrame) { f.Length = 54 }), 1, span(52, 54), span(0, 0)}, {withP(func(f *api.PageFrame) { f.Length = 53 }), 1, span(52, 54), span(0, -1)},
		{withP(func(f *api.PageFrame) { f.Length, f.Slack = 300, 9 }), 0, span(50, 51), span(241, 249)}, // whether there are such strips or not
		{withP(func(f *api.PageFrame) { f.Strips = nil }), 0, span(50, 51), span(8, 9)},
		{withP(func(f *api.PageFrame) { f.Columns = lists(nil, list(2, 3), list(1, 0)) }), 0, span(0, 0), span(58, 60)},
		{withP(func(f *api.PageFrame) { f.Columns = lists(nil, list(2, 3), list(1, 0)) }), 2, span(50, 51), span(8, 9)},
		{single(5, 9, nil), 0, span(0, 0), span(0, 5)}, {single(0, 0, nil), 0, span(0, 0), span(0, 0)}, {single(0, 9, []api.PagePiece{piece(1, 1, 0)}), 0, span(1, 1), span(0, -1)},
		{single(300, 9, slices.Repeat([]api.PagePiece{piece(0, 99, 0)}, 6)), 0, span(0, 594), span(0, -1)},
		{single(300, 9, slices.Repeat([]api.PagePiece{piece(49, 50, 0)}, 6)), 0, span(294, 300), span(0, 0)},
	} {
		h, e := pages.Column(x.f, x.column)
		r, f := pages.Room(x.f, x.column)
		if h != x.height || e != api.OK || x.room.High >= 0 && (r != x.room || f != api.OK) || x.room.High < 0 && (r != api.Span{} || f != api.ErrNone) {
			t.Errorf("%d: Column = %v, %d, want %v; Room = %v, %d, want %v", i, h, e, x.height, r, f, x.room)
		}
	}
}

// P3.3
func TestFits(t *testing.T) {
	wide := single(20, 3, []api.PagePiece{piece(5, 14, 0)}, strip(1, 4), strip(7, 2))
	for i, x := range []struct {
		f      api.PageFrame
		column int
		set    []int
		want   int
	}{
		{frameO(), 0, list(1, 1, 0), api.Surely}, {frameO(), 0, list(0, 3, 0), api.Surely}, {frameO(), 0, list(2, 0, 0), api.Perhaps}, {frameO(), 0, list(0, 0, 1), api.Never},
		{frameO(), 0, list(0, 0, 0), api.Never}, {frameO(), 0, list(2, 3, 1), api.Never}, {frameO(), 1, list(0, 2, 0), api.Surely}, {frameO(), 1, list(1, 0, 0), api.Perhaps},
		{frameO(), 1, list(0, 1, 0), api.Never}, {frameO(), 1, list(1, 1, 0), api.Perhaps}, {frameO(), 1, list(0, 3, 0), api.Never},
		{wide, 0, list(0, 0), api.Never}, {wide, 0, list(2, 0), api.Never}, {wide, 0, list(3, 0), api.Perhaps}, {wide, 0, list(4, 0), api.Perhaps}, {wide, 0, list(1, 1), api.Perhaps},
		{wide, 0, list(1, 2), api.Perhaps}, {wide, 0, list(2, 2), api.Never},
		{single(0, 0, nil), 0, nil, api.Surely}, {single(1, 0, nil), 0, list(), api.Never}, {single(9, 9, nil, strip(3, 4)), 0, list(4), api.Never}, {single(9, 9, nil, strip(3, 4)), 0, list(3), api.Surely},
		{single(2, 9, []api.PagePiece{piece(2, 3, 0)}), 0, nil, api.Perhaps},
	} {
		if k, e := pages.Fits(x.f, x.column, x.set); k != x.want || e != api.OK {
			t.Errorf("%d: Fits(%v) = %d, %d, want %d", i, x.set, k, e, x.want)
		}
	}
}

// P3.5 and P3.6
func TestLock(t *testing.T) {
	for i, x := range []struct {
		f    api.PageFrame
		n    int // -1: there is none
		lock [][]int
	}{
		{frameP(), -1, nil}, {frameO(), 4, lists(list(1, 1, 0), list(0, 2, 0))},
		{api.PageFrame{}, 0, nil}, {api.PageFrame{Length: 9, Columns: nil, Strips: []api.PageStrip{strip(1, 1)}}, 0, nil},
		{api.PageFrame{Columns: lists(nil, nil)}, 0, lists(nil, nil)}, {api.PageFrame{Length: 1, Columns: lists(nil, nil)}, -1, nil},
		{api.PageFrame{Columns: lists(nil), Strips: []api.PageStrip{strip(1, 1), strip(2, 1)}}, 0, lists(list(0, 0))},
		// Fewer strips are better than a lesser list, and of as many the lesser list is, column by column.
		{single(6, 0, nil, strip(3, 0), strip(2, 3), strip(1, 4)), 3, lists(list(0, 3, 0))},
		{single(6, 0, nil, strip(6, 1), strip(2, 3), strip(3, 2)), 1, lists(list(1, 0, 0))},
		{single(6, 0, nil, strip(2, 3), strip(1, 4), strip(4, 1)), 2, lists(list(1, 0, 1))},
		{single(5, 1, nil, strip(5, 1), strip(4, 1)), 1, lists(list(0, 1))},
		{api.PageFrame{Length: 5, Slack: 1, Columns: lists(nil, nil), Strips: []api.PageStrip{strip(5, 1), strip(4, 1)}}, 2, lists(list(0, 1), list(1, 0))},
		// With the least set of the first column the second one has no strips left.
		{api.PageFrame{Length: 5, Slack: 1, Columns: lists(nil, list(0)), Pieces: []api.PagePiece{piece(0, 1, 0)}, Strips: []api.PageStrip{strip(5, 1), strip(4, 1)}}, 2, lists(list(1, 0), list(0, 1))},
		// The quickest set of the first column would leave more strips for the others.
		{api.PageFrame{Length: 6, Columns: lists(nil, nil), Strips: []api.PageStrip{strip(6, 1), strip(3, 2), strip(1, 4)}}, 3, lists(list(0, 2, 0), list(1, 0, 0))},
		{api.PageFrame{Length: 6, Columns: lists(nil, nil, nil), Strips: []api.PageStrip{strip(6, 1), strip(3, 2), strip(2, 3)}}, 6, lists(list(0, 0, 3), list(0, 2, 0), list(1, 0, 0))},
		{api.PageFrame{Length: 6, Columns: lists(nil, nil, nil), Strips: []api.PageStrip{strip(6, 1), strip(3, 1), strip(2, 3)}}, -1, nil},
	} {
		n, e := pages.Strips(x.f)
		l, f := pages.Lock(x.f)
		if x.n >= 0 && (n != x.n || !equal(l, x.lock) || e != api.OK || f != api.OK) {
			t.Errorf("%d: Strips = %d, %d, want %d; Lock = %v, %d, want %v", i, n, e, x.n, l, f, x.lock)
		}
		if x.n < 0 {
			checks.Expect(t, i, api.ErrNone, locked(x.f)...)
		}
	}
}

// P3.7
func TestTakes(t *testing.T) {
	for i, x := range []struct {
		f      api.PageFrame
		column int
		p      api.PagePiece
		want   bool
	}{
		{frameO(), 0, piece(8, 9, 3), true}, {frameO(), 1, piece(8, 9, 3), false}, {frameO(), 0, piece(0, 0, 0), true}, {frameP(), 0, piece(0, 0, 0), false},
		{frameP(), 0, piece(9, 9, 99), true}, {frameP(), 0, piece(9, 10, 99), false}, {frameP(), 0, piece(8, 9, 99), true}, {frameP(), 0, piece(7, 9, 99), false},
		{frameP(), 0, piece(99, 99, 0), false}, {single(9, 0, nil), 0, piece(9, 9, 0), true}, {single(9, 0, nil), 0, piece(8, 9, 0), false}, {single(9, 0, nil), 0, piece(8, 8, 0), false},
		{single(9, 0, nil, strip(1, 1)), 0, piece(8, 8, 0), true},
	} {
		if ok, e := pages.Takes(x.f, x.column, x.p); ok != x.want || e != api.OK {
			t.Errorf("%d: Takes(%v, %v) = %v, %d, want %v", i, x.column, x.p, ok, e, x.want)
		}
	}
}

// P3.8 and P3.9
func TestRefuse(t *testing.T) {
	heights := func(l ...int) []api.PagePiece {
		var all []api.PagePiece
		for i := 0; i < len(l); i += 2 {
			all = append(all, piece(l[i], l[i], l[i+1]))
		}
		return all
	}
	for i, x := range []struct {
		f    api.PageFrame
		out  []int
		lost int // -1: there are none
	}{
		{frameP(), list(3), 4}, {frameO(), nil, 0}, {api.PageFrame{}, nil, 0}, {api.PageFrame{Columns: lists(nil, nil)}, nil, 0}, {single(1, 0, nil), nil, -1},
		{single(5, 0, heights(5, 1, 5, 1, 5, 1)), list(0, 1), 2},             // as dear, as many: the least list
		{single(5, 0, heights(1, 1, 2, 1, 3, 1, 4, 1)), list(0, 3), 2},       // likewise: not 1 2, though 3 is the greatest one
		{single(5, 0, heights(5, 1, 5, 0, 5, 1)), list(0, 1), 1},             // the cheapest ones
		{single(5, 0, heights(5, 2, 5, 1, 5, 1)), list(1, 2), 2},             // likewise
		{single(6, 0, heights(3, 1, 3, 1, 2, 2, 4, 0)), list(0, 1), 2},       // what is left need not be the dearest piece
		{single(9, 0, heights(9, 3, 4, 1, 5, 2)), list(0), 3},                // as dear, but fewer pieces than 1 2
		{single(9, 0, heights(4, 1, 5, 2, 9, 3)), list(2), 3},                // likewise
		{single(9, 9, heights(4, 0, 5, 0)), nil, 0},                          // what costs nothing is not left out if it need not be
		{single(9, 0, heights(9, 0, 0, 0, 0, 0)), nil, 0},                    // nor what has no height
		{single(9, 9, heights(10, 99, 10, 99)), list(0, 1), 198},             // all of them
		{single(9, 8, heights(10, 99)), nil, -1},                             // without any piece the column is not as long
		{single(9, 0, heights(10, 7), strip(9, 1)), list(0), 7},              // but it is with strips
		{single(9, 8, []api.PagePiece{piece(0, 9, 7)}), nil, -1},             // by nobody knows how much
		{single(9, 9, []api.PagePiece{piece(0, 9, 7)}, strip(9, 1)), nil, 0}, // likewise
		{api.PageFrame{Length: 9, Pieces: heights(8, 5, 9, 2, 8, 4), Columns: lists(list(2), list(1), list(0)), Strips: []api.PageStrip{strip(1, 1), strip(9, 1)}}, list(2), 4},
	} {
		l, e := pages.Refuse(x.f)
		n, f := pages.Lost(x.f)
		if x.lost >= 0 && (!slices.Equal(l, x.out) || n != x.lost || e != api.OK || f != api.OK) {
			t.Errorf("%d: Refuse = %v, %d, want %v; Lost = %d, %d, want %d", i, l, e, x.out, n, f, x.lost)
		}
		if x.lost < 0 {
			checks.Expect(t, i, api.ErrNone, refused(x.f)...)
		}
	}
}

// P3.10
func TestGrow(t *testing.T) {
	for i, x := range []struct {
		f     api.PageFrame
		piece int
		want  int // -1: there is none
	}{
		{frameO(), 0, 22}, {frameO(), 1, 31}, {frameO(), 2, 41}, {frameO(), 3, 13}, {frameP(), 0, 20}, {frameP(), 2, -1},
		{single(300, 9, []api.PagePiece{piece(99, 99, 0)}, strip(30, 4), strip(30, 2), strip(21, 1)), 0, 99},
		{single(300, 9, []api.PagePiece{piece(95, 95, 0)}, strip(30, 4), strip(29, 2), strip(18, 1)), 0, 99}, // 103 would do as well, but for MaxPageHeight
		{single(50, 9, []api.PagePiece{piece(41, 99, 0)}), 0, 50}, {single(50, 9, []api.PagePiece{piece(40, 41, 0)}), 0, -1}, {single(50, 9, []api.PagePiece{piece(50, 50, 0)}), 0, 50},
		{single(50, 9, []api.PagePiece{piece(51, 51, 0)}), 0, -1}, {single(50, 9, []api.PagePiece{piece(45, 45, 0)}), 0, 50}, {single(0, 9, []api.PagePiece{piece(0, 3, 0)}), 0, 0},
		{single(50, 4, []api.PagePiece{piece(10, 10, 0), piece(20, 22, 0)}, strip(3, 4), strip(8, 1)), 0, 11}, // from 16 points on, and there are 17
	} {
		n, e := pages.Grow(x.f, x.piece)
		if x.want >= 0 && (n != x.want || e != api.OK) || x.want < 0 && (n != 0 || e != api.ErrNone) {
			t.Errorf("%d: Grow(%d) = %d, %d, want %d", i, x.piece, n, e, x.want)
		}
	}
}

// P3.11 and P3.12
func TestGap(t *testing.T) {
	level := api.PageFrame{
		Pieces:  []api.PagePiece{piece(0, 0, 0), piece(0, 3, 0), piece(5, 5, 0), piece(2, 4, 0), piece(7, 9, 0), piece(1, 1, 0)},
		Columns: lists(list(1, 0, 2, 4), list(3, 5)),
	}
	for i, x := range []struct {
		f          api.PageFrame
		one, other int
		gap        api.Span
		meets      int
	}{
		{frameP(), 0, 2, span(0, 0), api.Surely}, {frameP(), 1, 3, span(19, 21), api.Never}, {frameP(), 1, 0, span(-21, -20), api.Never}, {frameP(), 0, 1, span(20, 21), api.Never},
		{frameP(), 3, 1, span(-21, -19), api.Never}, {frameP(), 0, 3, span(40, 41), api.Never}, {frameP(), 2, 1, span(20, 21), api.Never}, {frameP(), 3, 3, span(0, 0), api.Surely},
		// What is ahead of two pieces of one column moves both, so it does not count.
		{level, 0, 2, span(0, 0), api.Surely}, {level, 2, 0, span(0, 0), api.Surely}, {level, 0, 4, span(5, 5), api.Never}, {level, 4, 0, span(-5, -5), api.Never}, {level, 2, 4, span(5, 5), api.Never},
		{level, 1, 0, span(0, 3), api.Perhaps}, {level, 0, 1, span(-3, 0), api.Perhaps}, {level, 4, 1, span(-8, -5), api.Never}, {level, 4, 4, span(0, 0), api.Surely},
		{level, 0, 5, span(-1, 4), api.Perhaps}, {level, 5, 0, span(-4, 1), api.Perhaps}, {level, 4, 5, span(-6, -1), api.Never}, {level, 5, 4, span(1, 6), api.Never}, {level, 3, 1, span(0, 0), api.Surely},
		{level, 3, 2, span(0, 3), api.Perhaps}, {level, 2, 3, span(-3, 0), api.Perhaps}, {level, 3, 5, span(2, 4), api.Never},
	} {
		g, e := pages.Gap(x.f, x.one, x.other)
		k, f := pages.Meets(x.f, x.one, x.other)
		if g != x.gap || k != x.meets || e != api.OK || f != api.OK {
			t.Errorf("%d: Gap(%d, %d) = %v, %d, want %v; Meets = %d, %d, want %d", i, x.one, x.other, g, e, x.gap, k, f, x.meets)
		}
	}
}

// P3.2 to P3.12: TestAllCalls holds each call against what the chapter says word by word.
func TestAllCalls(t *testing.T) {
	for i, f := range append(someFrames(1500, 4, 2), someFrames(150, 6, 4)...) {
		checkColumns(t, i, f)
		checkPieces(t, i, f)
		checkPage(t, i, f)
	}
}

func checkColumns(t *testing.T, i int, f api.PageFrame) {
	t.Helper()
	for column := range f.Columns {
		want := boundsOf(f, func(truth []int) int { return highIn(f, column, truth) })
		if h, e := pages.Column(f, column); h != want || e != api.OK {
			t.Errorf("%d: Column(%v, %d) = %v, %d, want %v", i, f, column, h, e, want)
		}
		room, some := wantRoom(f, column)
		if r, e := pages.Room(f, column); r != room || some != (e == api.OK) || !some && e != api.ErrNone {
			t.Errorf("%d: Room(%v, %d) = %v, %d, want %v", i, f, column, r, e, room)
		}
		for _, set := range allSets(f) {
			if k, e := pages.Fits(f, column, set); k != wantFits(f, column, points(f, set)) || e != api.OK {
				t.Errorf("%d: Fits(%v, %d, %v) = %d, %d", i, f, column, set, k, e)
			}
		}
		for n := range 5 {
			p := piece(n, n+i%3, n)
			ok, e := pages.Takes(f, column, p)
			if full := len(f.Pieces) == api.MaxPagePieces; full && (ok || e != api.ErrArg) || !full && (ok != canLock(withPiece(f, column, p)) || e != api.OK) {
				t.Errorf("%d: Takes(%v, %d, %v) = %v, %d", i, f, column, p, ok, e)
			}
		}
	}
}

func checkPieces(t *testing.T, i int, f api.PageFrame) {
	t.Helper()
	for one := range f.Pieces {
		high, some := wantGrow(f, one)
		if n, e := pages.Grow(f, one); n != high || some != (e == api.OK) || !some && e != api.ErrNone {
			t.Errorf("%d: Grow(%v, %d) = %d, %d, want %d", i, f, one, n, e, high)
		}
		for other := range f.Pieces {
			if g, e := pages.Gap(f, one, other); g != wantGap(f, one, other) || e != api.OK {
				t.Errorf("%d: Gap(%v, %d, %d) = %v, %d", i, f, one, other, g, e)
			}
			if k, e := pages.Meets(f, one, other); k != wantMeets(f, one, other) || e != api.OK {
				t.Errorf("%d: Meets(%v, %d, %d) = %d, %d", i, f, one, other, k, e)
			}
		}
	}
}

func checkPage(t *testing.T, i int, f api.PageFrame) {
	t.Helper()
	lock, some := wantLock(f)
	l, e := pages.Lock(f)
	if !equal(l, lock) || some != (e == api.OK) || !some && e != api.ErrNone {
		t.Errorf("%d: Lock(%v) = %v, %d, want %v", i, f, l, e, lock)
	}
	if n, e := pages.Strips(f); n != count(lock) || some != (e == api.OK) || !some && e != api.ErrNone {
		t.Errorf("%d: Strips(%v) = %d, %d, want %d", i, f, n, e, count(lock))
	}
	out, some := wantRefuse(f)
	if l, e := pages.Refuse(f); !slices.Equal(l, out) || some != (e == api.OK) || !some && e != api.ErrNone {
		t.Errorf("%d: Refuse(%v) = %v, %d, want %v", i, f, l, e, out)
	}
	if n, e := pages.Lost(f); n != pence(f, out) || some != (e == api.OK) || !some && e != api.ErrNone {
		t.Errorf("%d: Lost(%v) = %d, %d, want %d", i, f, n, e, pence(f, out))
	}
}

// TestLargest asks about a frame as large as it can be.
func TestLargest(t *testing.T) {
	f := largest()
	checks.Expect(t, "largest", api.ErrNone, locked(f)...)
	checks.Expect(t, "largest", api.ErrNone, grow(f, 0))
	out, e1 := pages.Refuse(f)
	lost, e2 := pages.Lost(f)
	high, e3 := pages.Grow(f, 5)
	if !slices.Equal(out, list(5)) || lost != 99 || high != 9 || e1+e2+e3 != api.OK {
		t.Errorf("Refuse = %v, %d; Lost = %d, %d; Grow = %d, %d", out, e1, lost, e2, high, e3)
	}
	f.Pieces[5] = piece(0, 9, 99)
	if l, e := pages.Lock(f); count(l) != 0 || len(l) != 3 || e != api.OK {
		t.Errorf("Lock = %v, %d", l, e)
	}
	// With 4 strips in each column all of them are used, in just one way that is the least.
	f.Slack, f.Pieces[1], f.Pieces[3], f.Pieces[5] = 0, piece(5, 5, 99), piece(5, 5, 99), piece(5, 5, 99)
	if l, e := pages.Lock(f); !equal(l, lists(list(0, 0, 4), list(0, 4, 0), list(4, 0, 0))) || e != api.OK {
		t.Errorf("Lock = %v, %d", l, e)
	}
}

// R2 to R4: TestMemory looks for memory that is shared or changed, and for what one call leaves to the next one.
func TestMemory(t *testing.T) {
	// Each list of the frame has memory behind it that a call might write to.
	roomy := func(f api.PageFrame) api.PageFrame {
		f = clone(f)
		f.Strips, f.Pieces, f.Columns = slices.Grow(f.Strips, 4), slices.Grow(f.Pieces, 4), slices.Grow(f.Columns, 4)
		for column := range f.Columns {
			f.Columns[column] = slices.Grow(f.Columns[column], 4)
		}
		return f
	}
	f, p, set := roomy(frameO()), roomy(frameP()), list(2, 0, 0)
	for range 2 {
		locks := checks.Must[[][]int](t, "Lock")(pages.Lock(f))
		refuses := checks.Must[[]int](t, "Refuse")(pages.Refuse(p))
		if !equal(locks, lists(list(1, 1, 0), list(0, 2, 0))) || !slices.Equal(refuses, list(3)) {
			t.Errorf("Lock = %v; Refuse = %v", locks, refuses)
		}
		fits(f, 0, set)
		ofColumn(f, 0)
		takes(f, 0, piece(8, 9, 0))
		takes(f, 1, piece(8, 9, 0))
		grow(f, 0)
		ofPieces(f, 1, 3)
		clear(refuses[:cap(refuses)])
		for n, set := range locks {
			set = set[:cap(set)]
			for i := range set {
				set[i] = -7
			}
			if n == 0 && !slices.Equal(locks[1], list(0, 2, 0)) {
				t.Errorf("two sets share memory: %v", locks)
			}
		}
		clear(locks[:cap(locks)])
		if !same(f, frameO()) || !same(p, frameP()) || !slices.Equal(set, list(2, 0, 0)) {
			t.Fatalf("an argument was changed: %v, %v, %v", f, p, set)
		}
		for _, pieces := range f.Columns {
			if behind := pieces[len(pieces):cap(pieces)]; slices.Max(behind) != 0 {
				t.Fatalf("what is behind an argument was changed: %v", behind)
			}
		}
		if behind := f.Pieces[len(f.Pieces):cap(f.Pieces)]; slices.Contains(behind, piece(8, 9, 0)) {
			t.Fatalf("what is behind an argument was changed: %v", behind)
		}
	}
}
