package copies

import "flong/api"

// changes is between which minutes each plate of each machine was changed.
type changes [api.MaxCopyMachines][api.MaxCopyPlates]api.Span

// way is from which machine each copy is, and between which minutes each plate was changed if they are. Minutes within these spans, whichever they are, make a truth together: so the ways are all truths, without each being looked at.
type way struct {
	from    []int
	changes changes
}

// ways returns all ways in which there is a truth.
func (r run) ways() []way {
	ways := []way{{changes: r.changes()}}
	for _, f := range r.Found {
		var longer []way
		for _, w := range ways {
			for _, machine := range f.From {
				left, ok := w.changes.left(machine, f)
				if !ok {
					continue
				}
				// The list is cut at its end, so that two ways that go on behind it share no memory.
				from := append(w.from[:len(w.from):len(w.from)], machine)
				longer = append(longer, way{from, left})
			}
		}
		ways = longer
	}
	return ways
}

// changes returns what is known without any copy.
func (r run) changes() changes {
	var c changes
	for machine, m := range r.Machines {
		copy(c[machine][:], m.Changes)
	}
	return c
}

// left returns what a copy from a machine leaves of the changes, and whether it leaves a minute for each plate.
func (c changes) left(machine int, f api.CopyFound) (changes, bool) {
	for plate, shows := range f.New {
		s := c[machine][plate]
		switch shows {
		case showsOld:
			s.Low = max(s.Low, f.Minute+1)
		case showsNew:
			s.High = min(s.High, f.Minute)
		}
		if s.Low > s.High {
			return changes{}, false
		}
		c[machine][plate] = s
	}
	return c, true
}

// look returns the ways of a run for a call that names something, which may be right or wrong.
func (r run) look(right bool) ([]way, api.Errno) {
	if e := r.named(right); e != api.OK {
		return nil, e
	}
	ways := r.ways()
	if len(ways) == 0 {
		return nil, api.ErrNone
	}
	return ways, api.OK
}

// over returns between what a number is in the truths of some ways; ask returns between what it is in those of one.
func over(ways []way, ask func(w way) api.Span) api.Span {
	s := ask(ways[0])
	for _, w := range ways[1:] {
		one := ask(w)
		s = api.Span{Low: min(s.Low, one.Low), High: max(s.High, one.High)}
	}
	return s
}

// exactly returns the span of one number.
func exactly(n int) api.Span { return api.Span{Low: n, High: n} }

// known returns what is known of something that is so in some truth, or in all.
func known(some, all bool) int {
	switch {
	case all:
		return api.Surely
	case some:
		return api.Perhaps
	}
	return api.Never
}
