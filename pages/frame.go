package pages

import (
	"slices"

	"flong/api"
)

// frame is a given frame at work.
type frame struct {
	api.PageFrame
}

// named returns the error of a call that names something, which may be right or wrong.
func (f frame) named(right bool) api.Errno {
	if !f.valid() {
		return api.ErrPage
	}
	if !right {
		return api.ErrArg
	}
	return api.OK
}

func (f frame) valid() bool {
	if !between(f.Length, 0, api.MaxPageLength) || !between(f.Slack, 0, api.MaxPageSlack) {
		return false
	}
	if len(f.Strips) > api.MaxPageKinds || len(f.Pieces) > api.MaxPagePieces || len(f.Columns) > api.MaxPageColumns {
		return false
	}
	for _, s := range f.Strips {
		if !between(s.Thick, 1, api.MaxPageThick) || !between(s.Many, 0, api.MaxPageMany) {
			return false
		}
	}
	for _, p := range f.Pieces {
		if !validPiece(p) {
			return false
		}
	}
	return f.placed()
}

func validPiece(p api.PagePiece) bool {
	return 0 <= p.Height.Low && p.Height.Low <= p.Height.High && p.Height.High <= api.MaxPageHeight &&
		between(p.Pence, 0, api.MaxPagePence)
}

// placed reports whether each piece is in the columns just once.
func (f frame) placed() bool {
	var met [api.MaxPagePieces]bool
	all := 0
	for _, column := range f.Columns {
		for _, piece := range column {
			if !f.hasPiece(piece) || met[piece] {
				return false
			}
			met[piece] = true
			all++
		}
	}
	return all == len(f.Pieces)
}

func between(n, least, most int) bool {
	return least <= n && n <= most
}

func (f frame) hasPiece(piece int) bool   { return between(piece, 0, len(f.Pieces)-1) }
func (f frame) hasColumn(column int) bool { return between(column, 0, len(f.Columns)-1) }

func (f frame) isSet(set []int) bool {
	if len(set) != len(f.Strips) {
		return false
	}
	for kind, n := range set {
		if !between(n, 0, f.Strips[kind].Many) {
			return false
		}
	}
	return true
}

// height returns between what some pieces are high together. Each piece is as high as it is whatever the others are, so every number between is what they are in some truth.
func (f frame) height(pieces ...int) api.Span {
	var sum api.Span
	for _, piece := range pieces {
		sum.Low += f.Pieces[piece].Height.Low
		sum.High += f.Pieces[piece].Height.High
	}
	return sum
}

// room returns between how many points strips must have so that a column of some pieces is surely locked with them; it is empty (Low above High) if no strips can do it.
func (f frame) room(pieces ...int) api.Span {
	height := f.height(pieces...)
	return api.Span{
		Low:  max(0, f.Length-f.Slack-height.Low),
		High: f.Length - height.High,
	}
}

// above returns the pieces that are ahead of a piece in its column.
func (f frame) above(piece int) []int {
	for _, column := range f.Columns {
		if place := slices.Index(column, piece); place >= 0 {
			return column[:place]
		}
	}
	return nil
}

// gap returns between what the top of another piece is further down than that of one piece. What is ahead of both moves both alike, so it does not count.
func (f frame) gap(one, other int) api.Span {
	ahead, behind := f.above(one), f.above(other)
	for len(ahead) > 0 && len(behind) > 0 && ahead[0] == behind[0] {
		ahead, behind = ahead[1:], behind[1:]
	}
	upper, lower := f.height(ahead...), f.height(behind...)
	return api.Span{Low: lower.Low - upper.High, High: lower.High - upper.Low}
}

// withPiece returns the frame with one more piece at the end of a column.
func (f frame) withPiece(column int, p api.PagePiece) frame {
	added := len(f.Pieces)
	f.Pieces = append(slices.Clone(f.Pieces), p)
	f.Columns = slices.Clone(f.Columns)
	f.Columns[column] = append(slices.Clone(f.Columns[column]), added)
	return f
}

// withHigh returns the frame with another High of the Height of a piece.
func (f frame) withHigh(piece, high int) frame {
	f.Pieces = slices.Clone(f.Pieces)
	f.Pieces[piece].Height.High = high
	return f
}
