package flongs

import "flong/api"

// casts is how many casts are left of each mould.
type casts [api.MaxFlongMoulds]int

// lefts is what is left in each world that agrees, equal worlds each.
type lefts []casts

// lefts needs no rule for moulds that broke: in a world that agrees just their casts were used.
func (s shop) lefts() lefts {
	var all lefts
	for _, lasts := range s.Worlds {
		if !s.agrees(lasts) {
			continue
		}
		var left casts
		for mould, m := range s.Moulds {
			left[mould] = lasts[mould] - m.Used
		}
		all = append(all, left)
	}
	return all
}

// span returns between how many casts are left of a mould.
func (l lefts) span(mould int) api.Span {
	span := api.Span{Low: l[0][mould], High: l[0][mould]}
	for _, left := range l {
		span.Low = min(span.Low, left[mould])
		span.High = max(span.High, left[mould])
	}
	return span
}

// surely returns how many casts are left of each mould in every world. Shares hold in every world just if they hold by this.
func (l lefts) surely() casts {
	var sure casts
	for mould := range sure {
		sure[mould] = l.span(mould).Low
	}
	return sure
}

// holding returns in how many worlds shares hold.
func (l lefts) holding(shares []int) int {
	worlds := 0
	for _, left := range l {
		if left.hold(shares) {
			worlds++
		}
	}
	return worlds
}

// tired returns in how many worlds no cast is left of a mould.
func (l lefts) tired(mould int) int {
	worlds := 0
	for _, left := range l {
		if left[mould] == 0 {
			worlds++
		}
	}
	return worlds
}

func (c casts) hold(shares []int) bool {
	for mould, share := range shares {
		if share > c[mould] {
			return false
		}
	}
	return true
}

// castsOf returns how many casts the moulds of a page have together.
func (s shop) castsOf(page int, of casts) int {
	sum := 0
	for mould, m := range s.Moulds {
		if m.Page == page {
			sum += of[mould]
		}
	}
	return sum
}

// lowest returns a part of some worlds in lowest terms.
func lowest(part, worlds int) api.Ratio {
	common, rest := worlds, part
	for rest > 0 {
		common, rest = rest, common%rest
	}
	return api.Ratio{Num: part / common, Den: worlds / common}
}
