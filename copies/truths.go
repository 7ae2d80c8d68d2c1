package copies

import (
	"slices"

	"flong/api"
)

// What a copy shows of a plate, but for api.CopyNot.
const (
	showsOld = 0
	showsNew = 1
)

// isTruth reports whether lists of any numbers are a truth.
func (r run) isTruth(t api.CopyTruth) bool {
	if len(t.Minutes) != len(r.Machines) || len(t.From) != len(r.Found) {
		return false
	}
	for machine, minutes := range t.Minutes {
		if !within(minutes, r.Machines[machine].Changes) {
			return false
		}
	}
	for found, machine := range t.From {
		f := r.Found[found]
		if !slices.Contains(f.From, machine) || !agrees(f, t.Minutes[machine]) {
			return false
		}
	}
	return true
}

// within reports whether there are as many minutes as spans, each within its own.
func within(minutes []int, spans []api.Span) bool {
	if len(minutes) != len(spans) {
		return false
	}
	for i, s := range spans {
		if !between(minutes[i], s.Low, s.High) {
			return false
		}
	}
	return true
}

// agrees reports whether a copy can be from a machine whose plates were changed in these minutes.
func agrees(f api.CopyFound, minutes []int) bool {
	for plate, shows := range f.New {
		isNew := minutes[plate] <= f.Minute
		if shows == showsNew && !isNew || shows == showsOld && isNew {
			return false
		}
	}
	return true
}

// truth returns the truth of a way in which each plate was changed as early as it can have been.
func (r run) truth(w way) api.CopyTruth {
	t := api.CopyTruth{From: slices.Clone(w.from)}
	for machine := range r.Machines {
		var minutes []int
		for plate := range r.Plates {
			minutes = append(minutes, w.changes[machine][plate].Low)
		}
		t.Minutes = append(t.Minutes, minutes)
	}
	return t
}
