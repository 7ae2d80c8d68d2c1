package flongs

import "flong/api"

// shop is a given shop at work.
type shop struct {
	api.FlongShop
}

// named returns the error of a call that names something, which may be right or wrong.
func (s shop) named(right bool) api.Errno {
	if !s.valid() {
		return api.ErrFlong
	}
	if !right {
		return api.ErrArg
	}
	return api.OK
}

// asked returns what is left in each world that agrees, for a call that needs such a world, or the error of this call.
func (s shop) asked(right bool) (lefts, api.Errno) {
	if e := s.named(right); e != api.OK {
		return nil, e
	}
	left := s.lefts()
	if len(left) == 0 {
		return nil, api.ErrNone
	}
	return left, api.OK
}

func (s shop) valid() bool {
	if len(s.Wants) > api.MaxFlongPages || len(s.Moulds) > api.MaxFlongMoulds || len(s.Worlds) > api.MaxFlongWorlds {
		return false
	}
	for _, want := range s.Wants {
		if !between(want, 0, api.MaxFlongWant) {
			return false
		}
	}
	for _, m := range s.Moulds {
		if !s.validMould(m) {
			return false
		}
	}
	for _, lasts := range s.Worlds {
		if !s.validWorld(lasts) {
			return false
		}
	}
	return between(s.Fresh, 1, api.MaxFlongCasts)
}

func (s shop) validMould(m api.FlongMould) bool {
	return s.hasPage(m.Page) && between(m.Used, 0, api.MaxFlongCasts) && between(m.Broke, 0, 1)
}

func (s shop) validWorld(lasts []int) bool {
	if len(lasts) != len(s.Moulds) {
		return false
	}
	for _, n := range lasts {
		if !between(n, 0, api.MaxFlongCasts) {
			return false
		}
	}
	return true
}

func between(n, least, most int) bool {
	return least <= n && n <= most
}

func (s shop) hasPage(page int) bool   { return between(page, 0, len(s.Wants)-1) }
func (s shop) hasMould(mould int) bool { return between(mould, 0, len(s.Moulds)-1) }
func (s shop) hasWorld(world int) bool { return between(world, 0, len(s.Worlds)-1) }

func (s shop) isShares(shares []int) bool {
	if len(shares) != len(s.Moulds) {
		return false
	}
	for mould, share := range shares {
		if !between(share, 0, s.mostOf(mould)) {
			return false
		}
	}
	return true
}

// mostOf returns the greatest share that a mould may have.
func (s shop) mostOf(mould int) int {
	if s.Moulds[mould].Broke == 1 {
		return 0
	}
	return api.MaxFlongCasts
}

// agrees reports whether a world agrees that says how many casts each mould lasts.
func (s shop) agrees(lasts []int) bool {
	for mould, m := range s.Moulds {
		if lasts[mould] < m.Used || m.Broke == 1 && lasts[mould] > m.Used {
			return false
		}
	}
	return true
}
