// Package checks is what the tests of the layers share. The library itself does not use it.
package checks

import "flong/api"

// Test is what is needed of a *testing.T: a package that is not a test may not import package testing.
type Test interface {
	Helper()
	Errorf(format string, args ...any)
	Fatalf(format string, args ...any)
}

// Answer is what a call returned: its error, and whether all else is zero.
type Answer struct {
	name string
	e    api.Errno
	zero bool
}

// Said makes the answer of the call of a name.
func Said(name string, e api.Errno, zero bool) Answer {
	return Answer{name, e, zero}
}

// Expect checks that each answer is an error with nothing else; it may be api.OK, for calls that return zero.
func Expect(t Test, what any, want api.Errno, answers ...Answer) {
	t.Helper()
	for _, a := range answers {
		if a.e != want || !a.zero {
			t.Errorf("%v: %s: error %d, want %d with nothing else (%v)", what, a.name, a.e, want, a.zero)
		}
	}
}

// ExpectNot checks that no answer is an error.
func ExpectNot(t Test, what any, wrong api.Errno, answers ...Answer) {
	t.Helper()
	for _, a := range answers {
		if a.e == wrong {
			t.Errorf("%v: %s: error %d", what, a.name, a.e)
		}
	}
}

// Must returns a function that returns what a call returned, and ends the test if the call has an error.
func Must[T any](t Test, what any) func(v T, e api.Errno) T {
	return func(v T, e api.Errno) T {
		t.Helper()
		if e != api.OK {
			t.Fatalf("%v: error %d", what, e)
		}
		return v
	}
}

// NotGreater reports whether a number is not greater than an earlier one: if there is none now, there was none.
func NotGreater(now int, e api.Errno, was int, f api.Errno) bool {
	return f == api.ErrNone || e == api.OK && f == api.OK && now <= was
}

// Known returns what is known of something, by whether it is so in some truth, and whether it is not so in some.
func Known(yes, no bool) int {
	switch {
	case !no:
		return api.Surely
	case !yes:
		return api.Never
	}
	return api.Perhaps
}
