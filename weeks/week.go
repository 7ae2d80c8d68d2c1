package weeks

import (
	"iter"
	"slices"

	"flong/api"
	"flong/metal"
)

// week is a given foundry at work.
type week struct {
	api.WeekFoundry
}

func (w week) valid() bool {
	if metal.Check(w.Shop) != api.OK || len(w.Nights) > api.MaxWeekNights {
		return false
	}
	lost := 0
	for _, n := range w.Nights {
		if !validNight(n) {
			return false
		}
		lost += n.Dross.High
	}
	return lost <= w.Shop.Pot.Tin.Low
}

func validNight(n api.WeekNight) bool {
	return 0 <= n.Dross.Low && n.Dross.Low <= n.Dross.High && n.Dross.High <= api.MaxWeekDross && between(n.Test, 0, 1)
}

func between(n, least, most int) bool {
	return least <= n && n <= most
}

// nights yields all nights, each with between how many pounds are lost ahead of it.
func (w week) nights() iter.Seq2[int, api.Span] {
	return func(yield func(night int, lost api.Span) bool) {
		for night := range w.Nights {
			if !yield(night, w.lost(night)) {
				return
			}
		}
	}
}

// lost returns between how many pounds are lost ahead of a night.
func (w week) lost(night int) api.Span {
	lost := api.Span{}
	for _, n := range w.Nights[:night] {
		lost = sum(lost, n.Dross)
	}
	return lost
}

// less returns the shop with so many pounds less of tin in its pot.
func (w week) less(lost int) api.MetalShop {
	s := w.Shop
	s.Pot.Pounds -= lost
	s.Pot.Tin = moved(s.Pot.Tin, -lost)
	return s
}

// planned returns what is added by a plan up to each night, with this night, or the error of a call that has it.
func (w week) planned(plan [][]int) ([][]int, api.Errno) {
	if !w.valid() {
		return nil, api.ErrWeek
	}
	if len(plan) != len(w.Nights) {
		return nil, api.ErrArg
	}
	add, added := make([]int, len(w.Shop.Pigs)), [][]int{}
	for night, lost := range w.nights() {
		if !w.canAdd(plan[night]) {
			return nil, api.ErrArg
		}
		add = slices.Clone(add)
		for kind, n := range plan[night] {
			add[kind] += n
		}
		// The less is lost, the less room there is.
		if _, e := metal.After(w.less(lost.Low), add); e != api.OK {
			return nil, api.ErrArg
		}
		added = append(added, add)
	}
	return added, api.OK
}

// canAdd reports whether a list can be what is added on a night, whatever is added on the others. So no sum of such lists exceeds an int.
func (w week) canAdd(add []int) bool {
	if len(add) != len(w.Shop.Pigs) {
		return false
	}
	for kind, n := range add {
		if !between(n, 0, w.Shop.Pigs[kind].Many) {
			return false
		}
	}
	return true
}

// pot returns between how many pounds of metal, tin and antimony are in the pot on a night, with what is added up to then.
func (w week) pot(night int, added []int) (pounds, tin, antimony api.Span) {
	lost := w.lost(night)
	// The list was found to be an addition, and is one the more if more is lost.
	most, _ := metal.After(w.less(lost.Low), added)
	least, _ := metal.After(w.less(lost.High), added)
	return api.Span{Low: least.Pounds, High: most.Pounds}, api.Span{Low: least.Tin.Low, High: most.Tin.High}, most.Antimony
}

// blind returns the week without analyses.
func (w week) blind() week {
	w.Nights = slices.Clone(w.Nights)
	for night := range w.Nights {
		w.Nights[night].Test = 0
	}
	return w
}

// tested returns the week with an analysis ahead of a night.
func (w week) tested(night int) week {
	w.Nights = slices.Clone(w.Nights)
	w.Nights[night].Test = 1
	return w
}
