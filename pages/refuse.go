package pages

import (
	"cmp"
	"slices"

	"flong/api"
)

// choice is some pieces of a frame: a piece is one of them if the bit of its number is 1.
type choice int

// nothing is the choice of no pieces.
const nothing choice = 0

func (c choice) has(piece int) bool { return c>>piece&1 == 1 }

// rooms returns the room of each column without some pieces.
func (f frame) rooms(out choice) []api.Span {
	var rooms []api.Span
	for _, column := range f.Columns {
		kept := slices.DeleteFunc(slices.Clone(column), out.has)
		rooms = append(rooms, f.room(kept...))
	}
	return rooms
}

// refusal is pieces that are left out, ascending, and what is paid for them together.
type refusal struct {
	pieces []int
	pence  int
}

func (f frame) refusal(out choice) refusal {
	var r refusal
	for piece, p := range f.Pieces {
		if out.has(piece) {
			r.pieces = append(r.pieces, piece)
			r.pence += p.Pence
		}
	}
	return r
}

// compare returns a number below 0 if a refusal is better than another one.
func (r refusal) compare(other refusal) int {
	return cmp.Or(
		cmp.Compare(r.pence, other.pence),
		cmp.Compare(len(r.pieces), len(other.pieces)),
		slices.Compare(r.pieces, other.pieces),
	)
}

// refuse returns the best refusal without which the page can be locked.
func (f frame) refuse() (refusal, api.Errno) {
	if !f.valid() {
		return refusal{}, api.ErrPage
	}
	var best refusal
	found := false
	for out := range choice(1) << len(f.Pieces) {
		r := f.refusal(out)
		// Whether the page can be locked is asked last, as it takes the longest.
		if (!found || r.compare(best) < 0) && f.locks(out) {
			best, found = r, true
		}
	}
	if !found {
		return refusal{}, api.ErrNone
	}
	return best, api.OK
}
