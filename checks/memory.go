package checks

import "slices"

// Spoil writes to all of the memory of a list.
func Spoil[T any](l []T, wrong T) {
	l = l[:cap(l)]
	for n := range l {
		l[n] = wrong
	}
}

// Clean reports whether the memory behind a list has zero values alone, as slices.Grow made it.
func Clean[T comparable](l []T) bool {
	var zero T
	return !slices.ContainsFunc(l[len(l):cap(l)], func(x T) bool { return x != zero })
}
