package weeks

import (
	"iter"

	"flong/api"
)

// eachTruth counts from a night on ahead of which it becomes known what was in the pot at first.
func (s search) eachTruth(k known) []int {
	worst := make([]int, len(s.lists))
	for first := range s.hardest() {
		// What is seen of one truth is of no use for another one.
		s.seen = map[known][]int{}
		raise(worst, s.look(known{k.night, k.lost, first}))
		// Whatever can be added to some pigs can be added to none of them, so no other count is less than this one.
		if worst[0] >= none {
			break
		}
	}
	return worst
}

// eachLoss counts from a night on ahead of which it becomes known how many pounds are lost.
func (s search) eachLoss(k known) []int {
	worst := make([]int, len(s.lists))
	for lost := k.lost.Low; lost <= k.lost.High; lost++ {
		raise(worst, s.count(known{k.night, one(lost), k.first}))
	}
	return worst
}

// raise makes each count the greater one of two.
func raise(worst, counts []int) {
	for at, count := range counts {
		worst[at] = max(worst[at], count)
	}
}

// hardest yields some truths of the pot, each as if it were known. For each other truth there is one of these in which no more is allowed than in that one, so that no less is counted in it.
func (s search) hardest() iter.Seq[metals] {
	return func(yield func(first metals) bool) {
		antimonies := s.hardestOf(func(m metals) api.Span { return m.antimony })
		for _, tin := range s.hardestOf(func(m metals) api.Span { return m.tin }) {
			for _, antimony := range antimonies {
				if !yield(metals{one(tin), one(antimony)}) {
					return
				}
			}
		}
	}
}

// hardestOf returns the pounds of tin, or of antimony, of these truths. What is allowed is spans, so there is something that is allowed with a number and not with the next one just if a span ends at it, and the other way around just if one begins at the next one.
func (s search) hardestOf(metal func(m metals) api.Span) []int {
	begins, ends := map[int]bool{}, map[int]bool{}
	for _, row := range s.limits {
		for _, allowed := range row {
			begins[metal(allowed).Low] = true
			ends[metal(allowed).High] = true
		}
	}
	var hardest []int
	all := metal(s.first())
	for n := all.Low; n <= all.High; n++ {
		nextIsAsHard := n < all.High && !begins[n+1]
		lastIsHarder := n > all.Low && !ends[n-1] && begins[n]
		if !nextIsAsHard && !lastIsHarder {
			hardest = append(hardest, n)
		}
	}
	return hardest
}
