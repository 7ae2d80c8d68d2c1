package checks_test

import (
	"testing"

	"flong/api"
	"flong/checks"
)

// counter counts what is reported to it.
type counter struct{ errors, ends int }

func (c *counter) Helper()               {}
func (c *counter) Errorf(string, ...any) { c.errors++ }
func (c *counter) Fatalf(string, ...any) { c.ends++ }

func TestExpect(t *testing.T) {
	none, wrong, more := checks.Said("None", api.ErrNone, true), checks.Said("Arg", api.ErrArg, true), checks.Said("More", api.ErrNone, false)
	c := &counter{}
	checks.Expect(c, "nothing", api.ErrNone)
	checks.Expect(c, "right", api.ErrNone, none)
	checks.ExpectNot(c, "right", api.ErrArg, none, more)
	if c.errors != 0 {
		t.Errorf("%d errors, want none", c.errors)
	}
	checks.Expect(c, "two wrong", api.ErrNone, none, wrong, more)
	checks.ExpectNot(c, "one wrong", api.ErrArg, none, wrong)
	if c.errors != 3 || c.ends != 0 {
		t.Errorf("%d errors and %d ends, want 3 and 0", c.errors, c.ends)
	}
}

func TestMust(t *testing.T) {
	c := &counter{}
	if n := checks.Must[int](c, "right")(7, api.OK); n != 7 || c.ends != 0 {
		t.Errorf("Must = %d, with %d ends", n, c.ends)
	}
	checks.Must[int](c, "wrong")(7, api.ErrNone)
	if c.ends != 1 || c.errors != 0 {
		t.Errorf("%d ends and %d errors, want 1 and 0", c.ends, c.errors)
	}
}

func TestNotGreater(t *testing.T) {
	for i, x := range []struct {
		now  int
		e    api.Errno
		was  int
		f    api.Errno
		want bool
	}{
		{2, api.OK, 3, api.OK, true}, {3, api.OK, 3, api.OK, true}, {4, api.OK, 3, api.OK, false},
		{4, api.OK, 0, api.ErrNone, true}, {0, api.ErrNone, 0, api.ErrNone, true}, {0, api.ErrNone, 3, api.OK, false},
		{0, api.ErrArg, 3, api.OK, false}, {0, api.OK, 0, api.ErrArg, false},
	} {
		if is := checks.NotGreater(x.now, x.e, x.was, x.f); is != x.want {
			t.Errorf("%d: NotGreater = %v", i, is)
		}
	}
}

func TestKnown(t *testing.T) {
	if s, n, p := checks.Known(true, false), checks.Known(false, true), checks.Known(true, true); s != api.Surely || n != api.Never || p != api.Perhaps {
		t.Errorf("Known = %d, %d, %d", s, n, p)
	}
}
