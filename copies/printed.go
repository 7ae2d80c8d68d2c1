package copies

import "flong/api"

// old returns between how many copies all machines printed with the old plate of a kind: in as many minutes as there are before that of its change.
func (r run) old(w way, plate int) api.Span {
	var copies api.Span
	for machine, m := range r.Machines {
		copies = plus(copies, w.changes[machine][plate], m.Rate)
	}
	return copies
}

// mixes returns between how many copies of all machines mix.
func (r run) mixes(ways []way) api.Span {
	return over(ways, func(w way) api.Span {
		var copies api.Span
		for machine, m := range r.Machines {
			copies = plus(copies, r.mixing(w, machine), m.Rate)
		}
		return copies
	})
}

// plus returns the copies with those that are printed in some more minutes.
func plus(copies, minutes api.Span, rate int) api.Span {
	return api.Span{Low: copies.Low + minutes.Low*rate, High: copies.High + minutes.High*rate}
}

// mixing returns in between how many minutes a machine mixes: in those from its first change to its last one.
func (r run) mixing(w way, machine int) api.Span {
	var minutes api.Span
	changes := w.changes[machine][:r.Plates]
	for plate, s := range changes {
		for _, other := range changes[:plate] {
			minutes.Low = max(minutes.Low, s.Low-other.High, other.Low-s.High)
			minutes.High = max(minutes.High, s.High-other.Low, other.High-s.Low)
		}
	}
	return minutes
}
