package pages_test

import (
	"math/rand"
	"slices"

	"flong/api"
)

func list(l ...int) []int { return l }

func lists(l ...[]int) [][]int { return l }

func span(low, high int) api.Span { return api.Span{Low: low, High: high} }

func strip(thick, many int) api.PageStrip { return api.PageStrip{Thick: thick, Many: many} }

func piece(low, high, pence int) api.PagePiece {
	return api.PagePiece{Height: span(low, high), Pence: pence}
}

// frameP is P of the chapter's examples, and frameO is O.
func frameP() api.PageFrame {
	return api.PageFrame{
		Length: 60, Slack: 2,
		Strips:  []api.PageStrip{strip(5, 2), strip(3, 2), strip(18, 1)},
		Pieces:  []api.PagePiece{piece(20, 21, 9), piece(30, 30, 5), piece(40, 41, 7), piece(12, 13, 4)},
		Columns: lists(list(0, 1), list(2, 3)),
	}
}

func frameO() api.PageFrame { return withP(func(f *api.PageFrame) { f.Strips[1].Many = 3 }) }

func withP(change func(f *api.PageFrame)) api.PageFrame { return changed(frameP(), change) }

// changed returns a copy of a frame with something changed.
func changed(f api.PageFrame, change func(f *api.PageFrame)) api.PageFrame {
	f = clone(f)
	change(&f)
	return f
}

func clone(f api.PageFrame) api.PageFrame {
	f.Strips, f.Pieces, f.Columns = slices.Clone(f.Strips), slices.Clone(f.Pieces), slices.Clone(f.Columns)
	for column, pieces := range f.Columns {
		f.Columns[column] = slices.Clone(pieces)
	}
	return f
}

func same(one, other api.PageFrame) bool {
	return one.Length == other.Length && one.Slack == other.Slack && slices.Equal(one.Strips, other.Strips) &&
		slices.Equal(one.Pieces, other.Pieces) && equal(one.Columns, other.Columns)
}

func equal(one, other [][]int) bool { return slices.EqualFunc(one, other, slices.Equal[[]int]) }

// single is a frame with one column of pieces, and no strips but these.
func single(length, slack int, pieces []api.PagePiece, strips ...api.PageStrip) api.PageFrame {
	f := api.PageFrame{Length: length, Slack: slack, Strips: strips, Pieces: pieces, Columns: lists(nil)}
	for i := range pieces {
		f.Columns[0] = append(f.Columns[0], i)
	}
	return f
}

// largest has as much as a frame can have of all. Its strips can be laid in very many ways, but none of them locks the last column unless the last piece is out.
func largest() api.PageFrame {
	return api.PageFrame{
		Length: 9, Slack: 9,
		Strips:  slices.Repeat([]api.PageStrip{strip(1, 4)}, 3),
		Pieces:  []api.PagePiece{piece(0, 0, 99), piece(0, 1, 99), piece(0, 0, 99), piece(0, 1, 99), piece(0, 0, 99), piece(0, 99, 99)},
		Columns: lists(list(0, 1), list(2, 3), list(4, 5)),
	}
}

// someFrames returns frames of all sorts, with so many pieces at the most and so many strips of a kind, the same at each call.
func someFrames(many, pieces, strips int) []api.PageFrame {
	r := rand.New(rand.NewSource(3))
	frames := []api.PageFrame{frameP(), frameO(), {}, {Columns: lists(nil, list())}, {Length: 7, Slack: 9, Columns: lists(nil)}}
	for len(frames) < many {
		frames = append(frames, someFrame(r, pieces, strips))
	}
	return frames
}

// someFrame has columns that are all about as long as the frame with some strips, so that these often lock it, and often just not; often it has some pieces more then.
func someFrame(r *rand.Rand, pieces, strips int) api.PageFrame {
	n := r.Intn(pieces + 1)
	f := api.PageFrame{Slack: r.Intn([]int{3, 6, 10}[r.Intn(3)]), Columns: make([][]int, 1+r.Intn(min(max(n, 1), api.MaxPageColumns)))}
	thick := []int{3, 10, 30}[r.Intn(3)]
	for range r.Intn(4) {
		f.Strips = append(f.Strips, strip(1+r.Intn(thick), r.Intn(strips+1)))
	}
	height, pence := []int{4, 20, 60}[r.Intn(3)], []int{2, 5, 100}[r.Intn(3)]
	numbers := r.Perm(n)
	for range n {
		low := r.Intn(height)
		f.Pieces = append(f.Pieces, piece(low, low+r.Intn(3)*r.Intn(2), r.Intn(pence)))
	}
	surplus := r.Intn(3) * r.Intn(2)
	for place, i := range numbers {
		column := r.Intn(len(f.Columns))
		if place < len(f.Columns) {
			column = place
		}
		if n-place == surplus {
			level(r, &f)
		}
		f.Columns[column] = slices.Insert(f.Columns[column], r.Intn(len(f.Columns[column])+1), i)
	}
	if surplus == 0 || surplus > n {
		level(r, &f)
	}
	return f
}

// level makes a frame as long as its longest column with some strips, and the last pieces of the others so high that they nearly are, too.
func level(r *rand.Rand, f *api.PageFrame) {
	filled := make([]int, len(f.Columns))
	for _, s := range f.Strips {
		for range r.Intn(s.Many + 1) {
			filled[r.Intn(len(filled))] += s.Thick
		}
	}
	for column, pieces := range f.Columns {
		for _, i := range pieces {
			filled[column] += f.Pieces[i].Height.High
		}
	}
	if r.Intn(3) == 0 {
		f.Length = r.Intn(4)
	}
	f.Length = min(max(f.Length, slices.Max(filled)+r.Intn(4)-1, 0), api.MaxPageLength)
	for column, pieces := range f.Columns {
		if len(pieces) == 0 {
			continue
		}
		h := &f.Pieces[pieces[len(pieces)-1]].Height
		high := min(max(h.High+f.Length-filled[column]-r.Intn(f.Slack+2), 0), api.MaxPageHeight)
		h.Low, h.High = max(0, high-(h.High-h.Low)), high
	}
}
