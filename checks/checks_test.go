package checks_test

import (
	"math/rand"
	"reflect"
	"slices"
	"testing"

	"flong/api"
	"flong/checks"
	"flong/flongs"
	"flong/metal"
	"flong/trains"
)

// counter counts what is reported to it.
type counter struct{ errors, ends int }

func (c *counter) Helper()               {}
func (c *counter) Errorf(string, ...any) { c.errors++ }
func (c *counter) Fatalf(string, ...any) { c.ends++ }

func TestExpect(t *testing.T) {
	none, wrong, more := checks.Said("None", api.ErrNone, true), checks.Said("Arg", api.ErrArg, true), checks.Said("More", api.ErrNone, false)
	c := &counter{}
	checks.Expect(c, "nothing", api.ErrNone)
	checks.Expect(c, "right", api.ErrNone, none)
	checks.ExpectNot(c, "right", api.ErrArg, none, more)
	if c.errors != 0 {
		t.Errorf("%d errors, want none", c.errors)
	}
	checks.Expect(c, "two wrong", api.ErrNone, none, wrong, more)
	checks.ExpectNot(c, "one wrong", api.ErrArg, none, wrong)
	if c.errors != 3 || c.ends != 0 {
		t.Errorf("%d errors and %d ends, want 3 and 0", c.errors, c.ends)
	}
}

func TestMust(t *testing.T) {
	c := &counter{}
	if n := checks.Must[int](c, "right")(7, api.OK); n != 7 || c.ends != 0 {
		t.Errorf("Must = %d, with %d ends", n, c.ends)
	}
	checks.Must[int](c, "wrong")(7, api.ErrNone)
	if c.ends != 1 || c.errors != 0 {
		t.Errorf("%d ends and %d errors, want 1 and 0", c.ends, c.errors)
	}
}

func TestNotGreater(t *testing.T) {
	for i, x := range []struct {
		now  int
		e    api.Errno
		was  int
		f    api.Errno
		want bool
	}{
		{2, api.OK, 3, api.OK, true}, {3, api.OK, 3, api.OK, true}, {4, api.OK, 3, api.OK, false},
		{4, api.OK, 0, api.ErrNone, true}, {0, api.ErrNone, 0, api.ErrNone, true}, {0, api.ErrNone, 3, api.OK, false},
		{0, api.ErrArg, 3, api.OK, false}, {0, api.OK, 0, api.ErrArg, false},
	} {
		if is := checks.NotGreater(x.now, x.e, x.was, x.f); is != x.want {
			t.Errorf("%d: NotGreater = %v", i, is)
		}
	}
}

func TestKnown(t *testing.T) {
	if s, n, p := checks.Known(true, false), checks.Known(false, true), checks.Known(true, true); s != api.Surely || n != api.Never || p != api.Perhaps {
		t.Errorf("Known = %d, %d, %d", s, n, p)
	}
}

func TestSpoilAndClean(t *testing.T) {
	all := []int{1, 2, 0, 0}
	if !checks.Clean(all[:2]) || !checks.Clean(all) || checks.Clean(all[:1]) || !checks.Clean([]int(nil)) {
		t.Error("Clean is wrong of what is behind a list")
	}
	checks.Spoil(all[1:2:3], -7)
	if !slices.Equal(all, []int{1, -7, -7, 0}) {
		t.Errorf("Spoil: %v", all)
	}
}

func TestSubsets(t *testing.T) {
	for many, want := range [][][]int{{nil}, {nil, {0}}, {nil, {0}, {1}, {0, 1}}, {nil, {0}, {1}, {0, 1}, {2}, {0, 2}, {1, 2}, {0, 1, 2}}} {
		if all := checks.Subsets(many); !slices.EqualFunc(all, want, slices.Equal[[]int]) {
			t.Errorf("Subsets(%d) = %v", many, all)
		}
	}
}

func TestPlates(t *testing.T) {
	set := checks.Plates(0, 1, 2, 3, 0, 4)
	if want := []api.MachinePlate{{Bore: 1, Many: 2}, {Page: 3, Many: 4}}; !reflect.DeepEqual(set, want) {
		t.Errorf("Plates = %v", set)
	}
	if n, m := checks.ManyOf(set, 0, 1), checks.ManyOf(set, 1, 0); n != 2 || m != 0 {
		t.Errorf("ManyOf = %d and %d", n, m)
	}
	for i, x := range []struct{ page, bore, many int }{{0, 1, 5}, {0, 1, 0}, {0, 2, 1}, {3, 2, 9}, {1, 1, 0}} {
		other := checks.Put(set, x.page, x.bore, x.many)
		for page := range api.MaxMachinePages {
			for bore := range api.MaxMachineBores {
				want := checks.ManyOf(set, page, bore)
				if page == x.page && bore == x.bore {
					want = x.many
				}
				if n := checks.ManyOf(other, page, bore); n != want {
					t.Errorf("%d: Put = %v: %d of %d %d", i, other, n, page, bore)
				}
			}
		}
		inOrder := func(one, other api.MachinePlate) int { return (one.Page*3 + one.Bore) - (other.Page*3 + other.Bore) }
		if !slices.IsSortedFunc(other, inOrder) || slices.ContainsFunc(other, func(p api.MachinePlate) bool { return p.Many == 0 }) {
			t.Errorf("%d: Put = %v, which is no set", i, other)
		}
	}
}

func TestTowns(t *testing.T) {
	change := []func(x *api.OverTown){
		func(x *api.OverTown) { x.House.Machines[1].Stops++ }, func(x *api.OverTown) { x.House.Bundles[2].Train++ }, func(x *api.OverTown) { x.House.Trains[1]++ }, func(x *api.OverTown) { x.House.Change++ },
		func(x *api.OverTown) { x.Shop.Moulds[3].Used++ }, func(x *api.OverTown) { x.Shop.Worlds[3][3]++ }, func(x *api.OverTown) { x.Shop.Wants[1]++ }, func(x *api.OverTown) { x.Shop.Fresh++ },
	}
	for i, f := range change {
		x := checks.Town()
		y := checks.CopyTown(x)
		if !checks.SameTown(x, y) {
			t.Fatalf("%v is a copy of %v", y, x)
		}
		f(&y)
		if checks.SameTown(x, y) || !checks.SameTown(x, checks.Town()) {
			t.Errorf("%d: %v was changed to %v", i, x, y)
		}
	}
}

func TestSomeTowns(t *testing.T) {
	r := rand.New(rand.NewSource(1))
	for range 1000 {
		x := checks.SomeTown(r, 3)
		if trains.Check(x.House) != api.OK || flongs.Check(x.Shop) != api.OK || len(x.House.Bundles) > 3 {
			t.Fatalf("%v is not valid", x)
		}
	}
}

func TestSomeLines(t *testing.T) {
	one, other := checks.SomeLines(rand.New(rand.NewSource(1)), 24), checks.SomeLines(rand.New(rand.NewSource(1)), 24)
	if len(one) != 24 || !slices.Equal(one, other) {
		t.Errorf("lines by the same dice are %q and %q", one, other)
	}
}

func TestSomeShops(t *testing.T) {
	r := rand.New(rand.NewSource(1))
	for range 1000 {
		s := api.MetalShop{Pot: checks.SomePot(r, 50), Room: 50, Pigs: []api.MetalPig{checks.SomePig(r)}}
		if metal.Check(s) != api.OK {
			t.Fatalf("%v is not valid", s)
		}
	}
}
