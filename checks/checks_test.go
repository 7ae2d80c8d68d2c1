package checks_test

import (
	"testing"

	"flong/api"
	"flong/checks"
)

// counter counts what is reported to it.
type counter struct{ errors, ends int }

func (c *counter) Helper()               {}
func (c *counter) Errorf(string, ...any) { c.errors++ }
func (c *counter) Fatalf(string, ...any) { c.ends++ }

func TestExpect(t *testing.T) {
	none, wrong, more := checks.Said("None", api.ErrNone, true), checks.Said("Arg", api.ErrArg, true), checks.Said("More", api.ErrNone, false)
	c := &counter{}
	checks.Expect(c, "nothing", api.ErrNone)
	checks.Expect(c, "right", api.ErrNone, none)
	checks.ExpectNot(c, "right", api.ErrArg, none, more)
	if c.errors != 0 {
		t.Errorf("%d errors, want none", c.errors)
	}
	checks.Expect(c, "two wrong", api.ErrNone, none, wrong, more)
	checks.ExpectNot(c, "one wrong", api.ErrArg, none, wrong)
	if c.errors != 3 || c.ends != 0 {
		t.Errorf("%d errors and %d ends, want 3 and 0", c.errors, c.ends)
	}
}

func TestMust(t *testing.T) {
	c := &counter{}
	if n := checks.Must[int](c, "right")(7, api.OK); n != 7 || c.ends != 0 {
		t.Errorf("Must = %d, with %d ends", n, c.ends)
	}
	checks.Must[int](c, "wrong")(7, api.ErrNone)
	if c.ends != 1 || c.errors != 0 {
		t.Errorf("%d ends and %d errors, want 1 and 0", c.ends, c.errors)
	}
}
