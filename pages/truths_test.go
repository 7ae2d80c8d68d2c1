package pages_test

import (
	"slices"

	"flong/api"
	"flong/checks"
)

// What the chapter says, word by word: each truth, each set of strips, each layout and each choice of pieces is looked at.

// truths returns how high each piece is in each truth.
func truths(f api.PageFrame) [][]int {
	all := lists(nil)
	for _, p := range f.Pieces {
		all = longer(all, p.Height)
	}
	return all
}

// longer returns all lists behind which each number of a span is, lesser lists first if these are.
func longer(all [][]int, s api.Span) [][]int {
	var out [][]int
	for _, l := range all {
		for n := s.Low; n <= s.High; n++ {
			out = append(out, append(slices.Clone(l), n))
		}
	}
	return out
}

// allSets returns all sets of strips, the least one first.
func allSets(f api.PageFrame) [][]int {
	all := lists(nil)
	for _, s := range f.Strips {
		all = longer(all, span(0, s.Many))
	}
	return all
}

func sum(l []int) int {
	n := 0
	for _, m := range l {
		n += m
	}
	return n
}

func points(f api.PageFrame, set []int) int {
	n := 0
	for kind, many := range set {
		n += many * f.Strips[kind].Thick
	}
	return n
}

// highIn returns how high all pieces of a column are together in a truth.
func highIn(f api.PageFrame, column int, truth []int) int {
	high := 0
	for _, i := range f.Columns[column] {
		high += truth[i]
	}
	return high
}

// topIn returns how far down a piece is in a truth.
func topIn(f api.PageFrame, piece int, truth []int) int {
	for _, pieces := range f.Columns {
		top := 0
		for _, i := range pieces {
			if i == piece {
				return top
			}
			top += truth[i]
		}
	}
	panic("the piece is in no column")
}

func lockedIn(f api.PageFrame, column, points int, truth []int) bool {
	high := highIn(f, column, truth) + points
	return high <= f.Length && high >= f.Length-f.Slack
}

// knownOf returns what is known of something that is asked of each truth.
func knownOf(f api.PageFrame, is func(truth []int) bool) int {
	yes, no := false, false
	for _, truth := range truths(f) {
		if is(truth) {
			yes = true
		} else {
			no = true
		}
	}
	return checks.Known(yes, no)
}

// boundsOf returns between what a number is over all truths.
func boundsOf(f api.PageFrame, number func(truth []int) int) api.Span {
	var all []int
	for _, truth := range truths(f) {
		all = append(all, number(truth))
	}
	return span(slices.Min(all), slices.Max(all))
}

func wantFits(f api.PageFrame, column, points int) int {
	return knownOf(f, func(truth []int) bool { return lockedIn(f, column, points, truth) })
}

func wantRoom(f api.PageFrame, column int) (api.Span, bool) {
	var all []int
	for points := 0; points <= f.Length; points++ {
		if wantFits(f, column, points) == api.Surely {
			all = append(all, points)
		}
	}
	if len(all) == 0 {
		return api.Span{}, false
	}
	return span(all[0], all[len(all)-1]), true
}

func wantGap(f api.PageFrame, one, other int) api.Span {
	return boundsOf(f, func(truth []int) int { return topIn(f, other, truth) - topIn(f, one, truth) })
}

func wantMeets(f api.PageFrame, one, other int) int {
	return knownOf(f, func(truth []int) bool { return topIn(f, other, truth) == topIn(f, one, truth) })
}

// locking returns all layouts that lock the page, the least one first.
func locking(f api.PageFrame) [][][]int {
	sets := allSets(f)
	all := [][][]int{nil}
	for column := range f.Columns {
		var longer [][][]int
		for _, set := range sets {
			if wantFits(f, column, points(f, set)) != api.Surely {
				continue
			}
			for _, l := range all {
				longer = append(longer, append(slices.Clone(l), set))
			}
		}
		all = longer
	}
	all = slices.DeleteFunc(all, func(l [][]int) bool { return !enough(f, l) })
	slices.SortFunc(all, func(one, other [][]int) int { return slices.CompareFunc(one, other, slices.Compare[[]int]) })
	return all
}

// enough reports whether there are the strips of a layout.
func enough(f api.PageFrame, layout [][]int) bool {
	for kind, s := range f.Strips {
		n := 0
		for _, set := range layout {
			n += set[kind]
		}
		if n > s.Many {
			return false
		}
	}
	return true
}

func count(layout [][]int) int {
	n := 0
	for _, set := range layout {
		n += sum(set)
	}
	return n
}

func wantLock(f api.PageFrame) ([][]int, bool) {
	all := locking(f)
	if len(all) == 0 {
		return nil, false
	}
	return slices.MinFunc(all, func(one, other [][]int) int { return count(one) - count(other) }), true
}

func canLock(f api.PageFrame) bool {
	_, ok := wantLock(f)
	return ok
}

// without returns the frame without some pieces, ascending; those behind them get lesser numbers.
func without(f api.PageFrame, out []int) api.PageFrame {
	return changed(f, func(f *api.PageFrame) {
		for _, piece := range slices.Backward(out) {
			f.Pieces = slices.Delete(f.Pieces, piece, piece+1)
			for column, pieces := range f.Columns {
				pieces = slices.DeleteFunc(pieces, func(i int) bool { return i == piece })
				for n, i := range pieces {
					if i > piece {
						pieces[n]--
					}
				}
				f.Columns[column] = pieces
			}
		}
	})
}

// choices returns all choices of pieces of a frame, each ascending.
func choices(f api.PageFrame) [][]int {
	all := lists(nil)
	for i := range f.Pieces {
		for _, l := range all {
			all = append(all, append(slices.Clone(l), i))
		}
	}
	return all
}

func pence(f api.PageFrame, pieces []int) int {
	n := 0
	for _, i := range pieces {
		n += f.Pieces[i].Pence
	}
	return n
}

func wantRefuse(f api.PageFrame) ([]int, bool) {
	var best []int
	found := false
	for _, out := range choices(f) {
		better := slices.Compare(list(pence(f, out), len(out)), list(pence(f, best), len(best)))
		if better == 0 {
			better = slices.Compare(out, best)
		}
		if (!found || better < 0) && canLock(without(f, out)) {
			best, found = out, true
		}
	}
	return best, found
}

func withHigh(f api.PageFrame, piece, high int) api.PageFrame {
	return changed(f, func(f *api.PageFrame) { f.Pieces[piece].Height.High = high })
}

// wantGrow looks at no High that is further above the Low than the Slack: between two truths the column would differ by more than it may.
func wantGrow(f api.PageFrame, piece int) (int, bool) {
	low := f.Pieces[piece].Height.Low
	for high := min(low+f.Slack, api.MaxPageHeight); high >= low; high-- {
		if canLock(withHigh(f, piece, high)) {
			return high, true
		}
	}
	return 0, false
}

// withPiece returns the frame with one more piece at the end of a column.
func withPiece(f api.PageFrame, column int, p api.PagePiece) api.PageFrame {
	return changed(f, func(f *api.PageFrame) {
		f.Columns[column] = append(f.Columns[column], len(f.Pieces))
		f.Pieces = append(f.Pieces, p)
	})
}
