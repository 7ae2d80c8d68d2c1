package copies

import (
	"slices"

	"flong/api"
)

// run is a given run at work.
type run struct {
	api.CopyRun
}

// named returns the error of a call that names something, which may be right or wrong.
func (r run) named(right bool) api.Errno {
	if !r.valid() {
		return api.ErrCopy
	}
	if !right {
		return api.ErrArg
	}
	return api.OK
}

func (r run) valid() bool {
	return between(r.Plates, 1, api.MaxCopyPlates) && between(r.Last, 1, api.MaxCopyMinute) &&
		between(len(r.Machines), 1, api.MaxCopyMachines) && len(r.Found) <= api.MaxCopies &&
		!slices.ContainsFunc(r.Machines, r.invalidMachine) && !slices.ContainsFunc(r.Found, r.invalidCopy)
}

func (r run) invalidMachine(m api.CopyMachine) bool {
	wrong := func(s api.Span) bool { return !between(s.Low, 0, s.High) || s.High > r.Last }
	return len(m.Changes) != r.Plates || slices.ContainsFunc(m.Changes, wrong) || !between(m.Rate, 0, api.MaxCopyRate)
}

func (r run) invalidCopy(f api.CopyFound) bool {
	wrong := func(shows int) bool { return !between(shows, api.CopyNot, showsNew) }
	return !between(f.Minute, 0, r.Last-1) || len(f.New) != r.Plates || slices.ContainsFunc(f.New, wrong) || !r.hasAll(f.From)
}

// hasAll reports whether machines are some of the run, ascending, one at least.
func (r run) hasAll(machines []int) bool {
	least := 0
	for _, machine := range machines {
		if machine < least || !r.hasMachine(machine) {
			return false
		}
		least = machine + 1
	}
	return len(machines) > 0
}

func between(n, least, most int) bool {
	return least <= n && n <= most
}

func (r run) hasMachine(machine int) bool { return between(machine, 0, len(r.Machines)-1) }
func (r run) hasPlate(plate int) bool     { return between(plate, 0, r.Plates-1) }
func (r run) hasCopy(found int) bool      { return between(found, 0, len(r.Found)-1) }
