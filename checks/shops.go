package checks

import "flong/api"

// Pot has so many pounds, and between so many of tin, and of antimony.
func Pot(pounds, tin, tins, antimony, antimonies int) api.MetalPot {
	return api.MetalPot{Pounds: pounds, Tin: api.Span{Low: tin, High: tins}, Antimony: api.Span{Low: antimony, High: antimonies}}
}

// Pig has its numbers in the order of the chapters' examples.
func Pig(pounds, tin, antimony, pence, many int) api.MetalPig {
	return api.MetalPig{Pounds: pounds, Tin: tin, Antimony: antimony, Pence: pence, Many: many}
}

// SomePot returns a valid pot of so many pounds at the most.
func SomePot(d Dice, most int) api.MetalPot {
	pounds := d.Intn(most + 1)
	tin, antimony := someBounds(d, pounds/2), someBounds(d, pounds-pounds/2)
	return api.MetalPot{Pounds: pounds, Tin: tin, Antimony: antimony}
}

// someBounds is mostly narrow, so that some truths can all be kept.
func someBounds(d Dice, most int) api.Span {
	low := d.Intn(most + 1)
	return api.Span{Low: low, High: min(most, low+d.Intn(4))}
}

// SomePig returns a valid pig, which often costs as much as another one.
func SomePig(d Dice) api.MetalPig {
	pounds := 1 + d.Intn([]int{4, 12, 40}[d.Intn(3)])
	tin := d.Intn(pounds + 1)
	antimony := d.Intn(pounds - tin + 1)
	switch d.Intn(4) {
	case 0:
		antimony = 0
	case 1:
		tin = 0
	case 2:
		tin, antimony = 0, 0
	}
	return Pig(pounds, tin, antimony, d.Intn([]int{1, 4, 100}[d.Intn(3)]), d.Intn(5))
}
