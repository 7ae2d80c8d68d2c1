package pours

import (
	"slices"

	"flong/api"
)

// shop is a given shop at work.
type shop struct {
	api.PourShop
}

// named returns the error of a call that names an order and some jobs. Only those for a valid shop are looked at: another one may have more jobs than there is room for.
func (s shop) named(order []int, jobs ...int) api.Errno {
	if !s.valid() {
		return api.ErrPour
	}
	if !s.isOrder(order) || slices.ContainsFunc(jobs, s.lacks) {
		return api.ErrArg
	}
	return api.OK
}

func (s shop) valid() bool {
	return len(s.Jobs) <= api.MaxPourJobs && !slices.ContainsFunc(s.Jobs, invalid)
}

func invalid(j api.PourJob) bool {
	return !between(j.Beat, 1, api.MaxPourMinutes) || !between(j.Pour, 1, api.MaxPourMinutes) ||
		!between(j.Dry.Low, 0, j.Dry.High) || j.Dry.High > api.MaxPourMinutes ||
		!between(j.Due, 0, api.MaxPourDue) || !between(j.Worth, 0, api.MaxPourWorth)
}

func between(n, least, most int) bool {
	return least <= n && n <= most
}

func (s shop) lacks(job int) bool { return !between(job, 0, len(s.Jobs)-1) }

func (s shop) isOrder(order []int) bool {
	var met [api.MaxPourJobs]bool
	for _, job := range order {
		if s.lacks(job) || met[job] {
			return false
		}
		met[job] = true
	}
	return true
}
