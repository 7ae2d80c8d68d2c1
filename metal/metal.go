// Package metal is layer 1: see shared/doc/01-metal.md.
package metal

import "flong/api"

// Check returns ErrMetal unless a shop is valid.
func Check(s api.MetalShop) api.Errno {
	if !(shop{s}).valid() {
		return api.ErrMetal
	}
	return api.OK
}

// After returns the pot with an addition.
func After(s api.MetalShop, add []int) (api.MetalPot, api.Errno) {
	w := shop{s}
	if e := w.asked(add); e != api.OK {
		return api.MetalPot{}, e
	}
	return w.after(add), api.OK
}

// Mix returns the pot with the metal of another pot.
func Mix(s api.MetalShop, other api.MetalPot) (api.MetalPot, api.Errno) {
	if e := Check(s); e != api.OK {
		return api.MetalPot{}, e
	}
	if !validPot(other) || s.Pot.Pounds+other.Pounds > s.Room {
		return api.MetalPot{}, api.ErrArg
	}
	return api.MetalPot{
		Pounds:   s.Pot.Pounds + other.Pounds,
		Tin:      api.Span{Low: s.Pot.Tin.Low + other.Tin.Low, High: s.Pot.Tin.High + other.Tin.High},
		Antimony: api.Span{Low: s.Pot.Antimony.Low + other.Antimony.Low, High: s.Pot.Antimony.High + other.Antimony.High},
	}, api.OK
}

// Safe returns whether the metal is within its limits.
func Safe(s api.MetalShop, add []int) (int, api.Errno) {
	w := shop{s}
	if e := w.asked(add); e != api.OK {
		return 0, e
	}
	return w.safe(w.after(add)), api.OK
}

// Fails returns all limits that it may not be within.
func Fails(s api.MetalShop, add []int) ([]int, api.Errno) {
	w := shop{s}
	if e := w.asked(add); e != api.OK {
		return nil, e
	}
	pot := w.after(add)
	var fails []int
	for limit := range limits() {
		if !w.keeps(pot, limit) {
			fails = append(fails, limit)
		}
	}
	return fails, api.OK
}

// Lead returns between how many pounds of lead can be added.
func Lead(s api.MetalShop, add []int) (api.Span, api.Errno) {
	w := shop{s}
	if e := w.asked(add); e != api.OK {
		return api.Span{}, e
	}
	leads, ok := w.leads(w.after(add))
	if !ok {
		return api.Span{}, api.ErrNone
	}
	return leads, api.OK
}

// Short returns all limits that no addition keeps.
func Short(s api.MetalShop) ([]int, api.Errno) {
	if e := Check(s); e != api.OK {
		return nil, e
	}
	keeping := (shop{s}).keeping()
	var short []int
	for limit := range limits() {
		if keeping[limit] == 0 {
			short = append(short, limit)
		}
	}
	return short, api.OK
}

// Cheap returns the fewest pence of a safe addition.
func Cheap(s api.MetalShop) (int, api.Errno) {
	w := shop{s}
	_, pence, e := w.safest(func(add []int) int { return w.total(add, penceOf) })
	return pence, e
}

// Mend returns the cheapest safe addition.
func Mend(s api.MetalShop) ([]int, api.Errno) {
	w := shop{s}
	add, _, e := w.safest(func(add []int) int {
		// All pigs of an addition together have fewer pounds than this factor, so pounds decide only among equal pence.
		return w.total(add, penceOf)*(api.MaxMetalRoom+1) + w.total(add, poundsOf)
	})
	return add, e
}

// Tin returns the least tin of a safe addition.
func Tin(s api.MetalShop) (int, api.Errno) {
	w := shop{s}
	_, tin, e := w.safest(func(add []int) int { return w.total(add, tinOf) })
	return tin, e
}

// Known returns between what it would cost if the truth were known.
func Known(s api.MetalShop) (api.Span, api.Errno) {
	if e := Check(s); e != api.OK {
		return api.Span{}, e
	}
	known, ok := (shop{s}).known()
	if !ok {
		return api.Span{}, api.ErrNone
	}
	return known, api.OK
}

// Worth returns by how much an analysis makes it cheaper.
func Worth(s api.MetalShop) (int, api.Errno) {
	known, e := Known(s)
	if e != api.OK {
		return 0, e
	}
	cheap, e := Cheap(s)
	if e != api.OK {
		return 0, e
	}
	return cheap - known.High, api.OK
}
