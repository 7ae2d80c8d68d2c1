package copies_test

import (
	"slices"

	"flong/api"
	"flong/checks"
)

// What the chapter says, word by word: each truth is looked at minute by minute.

// wantShown returns what a copy of a minute shows of a plate that was changed in a minute: 1 if it is the new one.
func wantShown(change, minute int) int {
	shows := 0
	for m := range minute + 1 {
		if m == change {
			shows = 1
		}
	}
	return shows
}

// wantMinutes returns all lists of minutes of the machines that are within their changes.
func wantMinutes(r api.CopyRun) [][][]int {
	all := [][][]int{nil}
	for _, m := range r.Machines {
		minutes := lists(nil)
		for _, s := range m.Changes {
			var longer [][]int
			for _, l := range minutes {
				for n := s.Low; n <= s.High; n++ {
					longer = append(longer, append(slices.Clone(l), n))
				}
			}
			minutes = longer
		}
		var more [][][]int
		for _, x := range all {
			for _, l := range minutes {
				more = append(more, append(slices.Clone(x), l))
			}
		}
		all = more
	}
	return all
}

// truths returns all truths of a run.
func truths(r api.CopyRun) []api.CopyTruth {
	var all []api.CopyTruth
	for _, minutes := range wantMinutes(r) {
		from := lists(nil)
		for _, f := range r.Found {
			var longer [][]int
			for _, l := range from {
				for _, machine := range f.From {
					if wantAgrees(f, minutes[machine]) {
						longer = append(longer, append(slices.Clone(l), machine))
					}
				}
			}
			from = longer
		}
		for _, l := range from {
			all = append(all, api.CopyTruth{Minutes: minutes, From: l})
		}
	}
	return all
}

// wantAgrees reports whether a copy shows what can be read of it, from a machine whose plates were changed in these minutes.
func wantAgrees(f api.CopyFound, minutes []int) bool {
	for plate, shows := range f.New {
		if shows != api.CopyNot && shows != wantShown(minutes[plate], f.Minute) {
			return false
		}
	}
	return true
}

// over returns between what a number is, over all truths.
func over(all []api.CopyTruth, number func(x api.CopyTruth) int) api.Span {
	s := span(number(all[0]), number(all[0]))
	for _, x := range all[1:] {
		n := number(x)
		s = span(min(s.Low, n), max(s.High, n))
	}
	return s
}

// wantKnown returns what is known of something, of which it is told whether it is so in a truth.
func wantKnown(all []api.CopyTruth, so func(x api.CopyTruth) bool) int {
	no := func(x api.CopyTruth) bool { return !so(x) }
	return checks.Known(slices.ContainsFunc(all, so), slices.ContainsFunc(all, no))
}

func wantWhere(r api.CopyRun, all []api.CopyTruth, i int) []int {
	var from []int
	for machine := range r.Machines {
		if slices.ContainsFunc(all, func(x api.CopyTruth) bool { return x.From[i] == machine }) {
			from = append(from, machine)
		}
	}
	return from
}

// wantFrom returns from how many machines the copies are.
func wantFrom(x api.CopyTruth) int {
	from := slices.Clone(x.From)
	slices.Sort(from)
	return len(slices.Compact(from))
}

// wantOld returns how many copies were printed with the old plate of a kind.
func wantOld(r api.CopyRun, x api.CopyTruth, plate int) int {
	copies := 0
	for machine, m := range r.Machines {
		for minute := range r.Last {
			if wantShown(x.Minutes[machine][plate], minute) == 0 {
				copies += m.Rate
			}
		}
	}
	return copies
}

// wantMixing returns in which minutes a machine mixes.
func wantMixing(r api.CopyRun, x api.CopyTruth, machine int) []int {
	var in []int
	for minute := range r.Last {
		shown := []bool{false, false}
		for _, change := range x.Minutes[machine] {
			shown[wantShown(change, minute)] = true
		}
		if shown[0] && shown[1] {
			in = append(in, minute)
		}
	}
	return in
}

// wantMixes returns how many copies mix.
func wantMixes(r api.CopyRun, x api.CopyTruth) int {
	copies := 0
	for machine, m := range r.Machines {
		copies += m.Rate * len(wantMixing(r, x, machine))
	}
	return copies
}

// wantSeek returns the copy of which it should be found out from which machine it is, or -1.
func wantSeek(r api.CopyRun, all []api.CopyTruth) int {
	best, least := -1, most
	for i := range r.Found {
		from := wantWhere(r, all, i)
		if len(from) < 2 {
			continue
		}
		greatest := 0
		for _, machine := range from {
			alone := changed(r, func(r *api.CopyRun) { r.Found[i].From = list(machine) })
			s := over(truths(alone), func(x api.CopyTruth) int { return wantMixes(alone, x) })
			greatest = max(greatest, s.High-s.Low)
		}
		if greatest < least {
			best, least = i, greatest
		}
	}
	return best
}
