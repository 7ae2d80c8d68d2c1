package copies

import "flong/api"

// with returns the ways in which a copy is from a machine: those that there would be if its From had this machine alone.
func with(ways []way, found, machine int) []way {
	var left []way
	for _, w := range ways {
		if w.from[found] == machine {
			left = append(left, w)
		}
	}
	return left
}

// where returns the machines from which a copy is in some way.
func (r run) where(ways []way, found int) []int {
	var machines []int
	for _, machine := range r.Found[found].From {
		if len(with(ways, found, machine)) > 0 {
			machines = append(machines, machine)
		}
	}
	return machines
}

// different returns how many machines there are from which some copies are.
func different(from ...int) int {
	copies := map[int]int{}
	for _, machine := range from {
		copies[machine]++
	}
	return len(copies)
}

// seek returns the copy of which it tells the most from which machine it is; api.ErrNone if it is known of all.
func (r run) seek(ways []way) (int, api.Errno) {
	best, least, e := 0, 0, api.ErrNone
	for found := range r.Found {
		machines := r.where(ways, found)
		if len(machines) == 1 {
			continue
		}
		if n := r.unsure(ways, found, machines); e == api.ErrNone || n < least {
			best, least, e = found, n, api.OK
		}
	}
	return best, e
}

// unsure returns the greatest difference between both ends of Mixes that is left if it is found out from which of the machines a copy is.
func (r run) unsure(ways []way, found int, machines []int) int {
	greatest := 0
	for _, machine := range machines {
		s := r.mixes(with(ways, found, machine))
		greatest = max(greatest, s.High-s.Low)
	}
	return greatest
}
