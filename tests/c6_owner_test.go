package tests

import (
	"math"
	"slices"
	"testing"

	"loop.example/signalgraph/impl"
)

func TestOwnerLimits(t *testing.T) {
	if impl.MaxOwners != 12 || impl.MaxCleanups != 5 || impl.MaxLabel != 50 || impl.MaxKeys != 3 {
		t.Errorf("the limits are %d, %d, %d and %d", impl.MaxOwners, impl.MaxCleanups, impl.MaxLabel, impl.MaxKeys)
	}
}

// validOwners returns owners of all sorts that are valid.
func validOwners() [][]impl.Owner {
	return [][]impl.Owner{
		family(), heap(), tower(),
		owners(live(-1)),
		owners(live(-1, 0, 50, 0, 50, 0)),
		owners(keyed(live(-1), 0, 50, -1)),
		owners(keyed(live(-1, 3), 50, 50, 50), keyed(live(0, 3), 0, 0, 0)),
		// The first owner is closed, and all below it.
		owners(gone(-1)),
		owners(keyed(gone(-1), 1, 2, 3), keyed(gone(0), 4, -1, 5), gone(1)),
		// A closed owner below an open one, below a closed one, and ahead of an open one.
		owners(live(-1), gone(0), gone(1), live(0, 1), gone(3)),
		slices.Concat(owners(live(-1)), slices.Repeat(owners(gone(0)), 11)),
	}
}

// invalidOwners returns owners of all sorts that are not valid.
func invalidOwners() [][]impl.Owner {
	list := [][]impl.Owner{
		// None, or too many.
		nil, {}, append(heap(), live(0)), append(tower(), gone(11)), append(heap(), gone(0)), slices.Repeat(owners(live(-1)), 1000),
		// The first owner has no parent.
		{live(0)}, {live(1), live(0)}, {live(-2)}, {live(math.MinInt)}, {live(math.MaxInt)}, {gone(0)}, {gone(-2)},
		// Another owner has one ahead of it.
		{live(-1), live(-1)}, {live(-1), gone(-1)}, {live(-1), live(1)}, {live(-1), live(2), live(0)}, {live(-1), gone(1)}, {live(-1), gone(2), live(0)},
		{live(-1), live(0), live(-2)}, {live(-1), live(0), live(12)}, {live(-1), live(math.MaxInt)}, {live(-1), gone(math.MinInt)}, {live(-1), live(2), live(1)},
		// Open below a closed one.
		{gone(-1), live(0)}, {live(-1), gone(0), live(1)}, {live(-1), live(0), gone(1), live(2)}, {gone(-1), gone(0), live(1)},
	}
	for _, x := range []impl.Owner{
		// Cleanups that are too many, or that are no labels.
		live(0, 1, 2, 3, 4, 5, 6), live(0, slices.Repeat([]int{1}, 1000)...), live(0, -1), live(0, 51), live(0, 1, 2, 3, 4, 51), live(0, math.MaxInt), live(0, math.MinInt),
		// Cleanups of a closed one.
		{Parent: 0, Cleanups: []int{1}, Context: []int{-1, -1, -1}}, {Parent: 0, Cleanups: []int{1, 2, 3, 4, 5}, Context: []int{-1, -1, -1}},
		// Contexts that are no contexts, also of a closed one.
		keyed(live(0)), keyed(live(0), 1), keyed(live(0), 1, 2), keyed(live(0), 1, 2, 3, 4), keyed(live(0), slices.Repeat([]int{-1}, 1000)...),
		keyed(live(0), -2, -1, -1), keyed(live(0), -1, -1, 51), keyed(live(0), -1, math.MaxInt, -1), keyed(live(0), -1, math.MinInt, -1),
		keyed(gone(0)), keyed(gone(0), 1, 2), keyed(gone(0), 1, 2, 3, 4), keyed(gone(0), -1, -2, -1), keyed(gone(0), 51, -1, -1),
	} {
		list = append(list, owners(live(-1), x), append(family(), x), slices.Concat(owners(live(-1), x), heap()[2:]))
		x.Parent = -1
		list = append(list, owners(x), owners(x, live(0)))
	}
	return list
}

func TestValidOwners(t *testing.T) {
	for _, list := range validOwners() {
		if !impl.ValidOwners(list) {
			t.Errorf("not valid: %v", list)
		}
	}
}

// checkNoChange checks that no function changes owners at one that is not open.
func checkNoChange(t *testing.T, list []impl.Owner, o int) {
	t.Helper()
	for name, change := range map[string]func() ([]impl.Owner, bool){
		"OpenUnder":  func() ([]impl.Owner, bool) { return impl.OpenUnder(list, o) },
		"AddCleanup": func() ([]impl.Owner, bool) { return impl.AddCleanup(list, o, 1) },
		"SetContext": func() ([]impl.Owner, bool) { return impl.SetContext(list, o, 1, 1) },
	} {
		if out, ok := change(); len(out) != 0 || ok {
			t.Errorf("%s(%v, %d) = %v, %v", name, list, o, out, ok)
		}
	}
	if labels := impl.LabelsOf(list, o); len(labels) != 0 {
		t.Errorf("LabelsOf(%v, %d) = %v", list, o, labels)
	}
	if out, labels := impl.RerunOwner(list, o); len(out) != 0 || len(labels) != 0 {
		t.Errorf("RerunOwner(%v, %d) = %v, %v", list, o, out, labels)
	}
	checkNotDisposed(t, list, o)
	if kids := impl.KidsOf(list, o); len(kids) != 0 {
		t.Errorf("KidsOf(%v, %d) = %v", list, o, kids)
	}
}

func checkNotDisposed(t *testing.T, list []impl.Owner, o int) {
	t.Helper()
	if out, labels := impl.DisposeOwner(list, o); len(out) != 0 || len(labels) != 0 {
		t.Errorf("DisposeOwner(%v, %d) = %v, %v", list, o, out, labels)
	}
}

// checkNoOwner checks that all functions return what they return where o is none of the owners.
func checkNoOwner(t *testing.T, list []impl.Owner, o int) {
	t.Helper()
	checkNoChange(t, list, o)
	if above := impl.AboveOf(list, o); len(above) != 0 {
		t.Errorf("AboveOf(%v, %d) = %v", list, o, above)
	}
	for key := range impl.MaxKeys {
		if value, ok := impl.LookUp(list, o, key); value != 0 || ok {
			t.Errorf("LookUp(%v, %d, %d) = %d, %v", list, o, key, value, ok)
		}
	}
}

// checkNoOwners checks that all functions return what they return for owners that are not valid.
func checkNoOwners(t *testing.T, list []impl.Owner) {
	t.Helper()
	if impl.ValidOwners(list) {
		t.Errorf("valid: %v", list)
	}
	if out := impl.LiveOf(list); len(out) != 0 {
		t.Errorf("LiveOf(%v) = %v", list, out)
	}
	for o := range 15 {
		checkNoOwner(t, list, o-1)
	}
}

func TestInvalidOwners(t *testing.T) {
	for _, list := range invalidOwners() {
		checkNoOwners(t, list)
	}
}

func TestOwnersThatAreNotThere(t *testing.T) {
	for _, list := range validOwners() {
		for _, o := range []int{-1, -2, len(list), len(list) + 1, math.MaxInt, math.MinInt} {
			checkNoOwner(t, list, o)
		}
	}
}

func TestOwnersThatAreClosed(t *testing.T) {
	for _, list := range validOwners() {
		for o, x := range list {
			if !x.Open {
				checkNoChange(t, list, o)
			}
		}
	}
	// What a closed owner still has are its context and its place.
	list := owners(keyed(live(-1, 1), 5, 6, -1), keyed(gone(0), 7, -1, -1), keyed(gone(1), -1, -1, 8))
	for _, c := range []struct{ o, key, want int }{{1, 0, 7}, {1, 1, 6}, {2, 0, 7}, {2, 1, 6}, {2, 2, 8}} {
		if value, ok := impl.LookUp(list, c.o, c.key); value != c.want || !ok {
			t.Errorf("LookUp(%d, %d) = %d, %v; want %d", c.o, c.key, value, ok, c.want)
		}
	}
	if above := impl.AboveOf(list, 2); !slices.Equal(above, []int{2, 1, 0}) {
		t.Errorf("AboveOf = %v", above)
	}
}

func TestNewOwners(t *testing.T) {
	for _, context := range [][]int{{-1, -1, -1}, {0, 0, 0}, {50, 50, 50}, {-1, 4, -1}, {0, -1, 50}} {
		if list := impl.NewOwners(context); !sameOwners(list, owners(keyed(live(-1), context...))) {
			t.Errorf("NewOwners(%v) = %v", context, list)
		}
	}
	for _, context := range [][]int{
		nil, {}, {0}, {0, 0}, {0, 0, 0, 0}, {-1, -1}, {-1, -1, -1, -1}, slices.Repeat([]int{1}, 1000),
		{-2, 0, 0}, {0, -2, 0}, {0, 0, -2}, {51, 0, 0}, {0, 51, 0}, {0, 0, 51}, {math.MaxInt, 0, 0}, {0, 0, math.MinInt},
	} {
		if list := impl.NewOwners(context); len(list) != 0 {
			t.Errorf("NewOwners(%v) = %v", context, list)
		}
	}
}

func TestOpenUnder(t *testing.T) {
	list := owners(keyed(live(-1, 9), 1, 2, 3))
	for _, c := range []struct {
		o    int
		want impl.Owner
	}{{0, live(0)}, {1, live(1)}, {0, live(0)}, {2, live(2)}} {
		next, ok := impl.OpenUnder(list, c.o)
		if want := append(copiedOwners(list), c.want); !ok || !sameOwners(next, want) {
			t.Fatalf("OpenUnder(%v, %d) = %v, %v; want %v", list, c.o, next, ok, want)
		}
		list = next
	}
	// Under one that is behind a closed one.
	if out, ok := impl.OpenUnder(family(), 4); !ok || !sameOwners(out, append(family(), live(4))) {
		t.Errorf("OpenUnder = %v, %v", out, ok)
	}
	// MaxOwners, and one owner more. Those that are closed count, too.
	for _, list := range [][]impl.Owner{heap(), tower(), slices.Concat(owners(live(-1)), slices.Repeat(owners(gone(0)), 11))} {
		if out, ok := impl.OpenUnder(list[:11], 0); !ok || !sameOwners(out, append(copiedOwners(list[:11]), live(0))) {
			t.Errorf("OpenUnder(%v, 0) = %v, %v", list[:11], out, ok)
		}
		for o := range list {
			if out, ok := impl.OpenUnder(list, o); len(out) != 0 || ok {
				t.Errorf("OpenUnder(%v, %d) = %v, %v", list, o, out, ok)
			}
		}
	}
}

func TestAddCleanup(t *testing.T) {
	list := owners(live(-1), keyed(live(0, 7), 1, 2, 3), gone(1))
	for _, c := range []struct {
		o, label int
		want     []impl.Owner
	}{
		{0, 0, owners(live(-1, 0), list[1], list[2])},
		{0, 50, owners(live(-1, 50), list[1], list[2])},
		{1, 3, owners(list[0], keyed(live(0, 7, 3), 1, 2, 3), list[2])},
		// The same label again.
		{1, 7, owners(list[0], keyed(live(0, 7, 7), 1, 2, 3), list[2])},
	} {
		if out, ok := impl.AddCleanup(list, c.o, c.label); !ok || !sameOwners(out, c.want) {
			t.Errorf("AddCleanup(%v, %d, %d) = %v, %v; want %v", list, c.o, c.label, out, ok, c.want)
		}
	}
	for _, label := range []int{-1, 51, math.MaxInt, math.MinInt} {
		if out, ok := impl.AddCleanup(list, 1, label); len(out) != 0 || ok {
			t.Errorf("AddCleanup(%v, 1, %d) = %v, %v", list, label, out, ok)
		}
	}
	// MaxCleanups, and one label more.
	if out, ok := impl.AddCleanup(owners(live(-1, 1, 2, 3, 4)), 0, 5); !ok || !sameOwners(out, owners(live(-1, 1, 2, 3, 4, 5))) {
		t.Errorf("AddCleanup = %v, %v", out, ok)
	}
	if out, ok := impl.AddCleanup(owners(live(-1, 1, 2, 3, 4, 5)), 0, 6); len(out) != 0 || ok {
		t.Errorf("AddCleanup = %v, %v", out, ok)
	}
	// Each owner has MaxCleanups of its own.
	if out, ok := impl.AddCleanup(owners(live(-1, 1, 2, 3, 4, 5), live(0)), 1, 6); !ok || !sameOwners(out, owners(live(-1, 1, 2, 3, 4, 5), live(0, 6))) {
		t.Errorf("AddCleanup = %v, %v", out, ok)
	}
}

func TestSetContext(t *testing.T) {
	list := owners(live(-1, 9), keyed(live(0, 7), 1, 2, 3), gone(1))
	for _, c := range []struct {
		o, key, value int
		want          []impl.Owner
	}{
		{0, 0, 0, owners(keyed(live(-1, 9), 0, -1, -1), list[1], list[2])},
		{0, 2, 50, owners(keyed(live(-1, 9), -1, -1, 50), list[1], list[2])},
		{1, 0, 8, owners(list[0], keyed(live(0, 7), 8, 2, 3), list[2])},
		{1, 1, 8, owners(list[0], keyed(live(0, 7), 1, 8, 3), list[2])},
		// The value that is there.
		{1, 2, 3, list},
	} {
		if out, ok := impl.SetContext(list, c.o, c.key, c.value); !ok || !sameOwners(out, c.want) {
			t.Errorf("SetContext(%v, %d, %d, %d) = %v, %v; want %v", list, c.o, c.key, c.value, out, ok, c.want)
		}
	}
	for _, c := range []struct{ key, value int }{
		{-1, 1}, {3, 1}, {math.MaxInt, 1}, {math.MinInt, 1}, {0, -1}, {1, -1}, {0, -2}, {0, 51}, {2, math.MaxInt}, {2, math.MinInt}, {3, 51}, {-1, -1},
	} {
		if out, ok := impl.SetContext(list, 1, c.key, c.value); len(out) != 0 || ok {
			t.Errorf("SetContext(%v, 1, %d, %d) = %v, %v", list, c.key, c.value, out, ok)
		}
	}
}

func TestLookUp(t *testing.T) {
	list := family()
	wanted := [][]int{{7, -1, 0}, {7, 4, 0}, {7, -1, 0}, {7, 4, 0}, {8, -1, 0}, {8, -1, 0}, {8, 50, 0}, {7, 4, 0}}
	for o, values := range wanted {
		for key, want := range values {
			if value, ok := impl.LookUp(list, o, key); ok != (want >= 0) || value != max(want, 0) {
				t.Errorf("LookUp(%v, %d, %d) = %d, %v; want %d", list, o, key, value, ok, want)
			}
		}
		for _, key := range []int{-1, 3, math.MaxInt, math.MinInt} {
			if value, ok := impl.LookUp(list, o, key); ok || value != 0 {
				t.Errorf("LookUp(%v, %d, %d) = %d, %v", list, o, key, value, ok)
			}
		}
	}
	// A value on the way up goes all the way down, if it is not hidden.
	high := tower()
	high[0].Context = []int{5, 6, -1}
	high[3].Context = []int{-1, 0, -1}
	for o := range high {
		far, okFar := impl.LookUp(high, o, 0)
		near, okNear := impl.LookUp(high, o, 1)
		none, okNone := impl.LookUp(high, o, 2)
		want := 6
		if o >= 3 {
			want = 0
		}
		if far != 5 || !okFar || near != want || !okNear || none != 0 || okNone {
			t.Errorf("LookUp of %d = %d, %v and %d, %v and %d, %v", o, far, okFar, near, okNear, none, okNone)
		}
	}
}

func TestKidsAndWays(t *testing.T) {
	for _, c := range []struct {
		list   []impl.Owner
		o      int
		kids   []int
		above  []int
		labels []int
	}{
		{family(), 0, []int{1, 4}, []int{0}, []int{31, 30, 30, 21, 22, 20, 12, 11, 13, 10}},
		{family(), 1, []int{3, 7}, []int{1, 0}, []int{21, 22, 20, 12, 11}},
		{family(), 2, nil, []int{2, 0}, nil},
		{family(), 3, nil, []int{3, 1, 0}, []int{20}},
		{family(), 4, []int{6}, []int{4, 0}, []int{31, 30, 30}},
		{family(), 5, nil, []int{5, 4, 0}, nil},
		{family(), 6, nil, []int{6, 4, 0}, []int{31, 30, 30}},
		{family(), 7, nil, []int{7, 1, 0}, []int{21, 22}},
		{owners(live(-1)), 0, nil, []int{0}, nil},
		{owners(gone(-1), gone(0)), 1, nil, []int{1, 0}, nil},
		{owners(gone(-1), gone(0)), 0, nil, []int{0}, nil},
		{heap(), 0, []int{1, 2, 3, 4, 5, 6, 7, 8, 9, 10, 11}, []int{0}, []int{11, 10, 9, 8, 7, 6, 5, 4, 3, 2, 1, 0}},
		{heap(), 11, nil, []int{11, 0}, []int{11}},
		{tower(), 0, []int{1}, []int{0}, []int{11, 10, 9, 8, 7, 6, 5, 4, 3, 2, 1, 0}},
		{tower(), 10, []int{11}, []int{10, 9, 8, 7, 6, 5, 4, 3, 2, 1, 0}, []int{11, 10}},
		// Kids behind those of others.
		{owners(live(-1, 1), live(0, 2), live(0, 3), live(1, 4), live(2, 5), live(1, 6)), 0, []int{1, 2}, []int{0}, []int{5, 3, 6, 4, 2, 1}},
	} {
		if kids := impl.KidsOf(c.list, c.o); !slices.Equal(kids, c.kids) {
			t.Errorf("KidsOf(%v, %d) = %v; want %v", c.list, c.o, kids, c.kids)
		}
		if above := impl.AboveOf(c.list, c.o); !slices.Equal(above, c.above) {
			t.Errorf("AboveOf(%v, %d) = %v; want %v", c.list, c.o, above, c.above)
		}
		if labels := impl.LabelsOf(c.list, c.o); !slices.Equal(labels, c.labels) {
			t.Errorf("LabelsOf(%v, %d) = %v; want %v", c.list, c.o, labels, c.labels)
		}
	}
}

func TestLiveOf(t *testing.T) {
	for _, c := range []struct {
		list []impl.Owner
		want []int
	}{
		{family(), []int{0, 1, 3, 4, 6, 7}},
		{owners(live(-1)), []int{0}},
		{owners(gone(-1)), nil},
		{owners(gone(-1), gone(0), gone(0)), nil},
		{owners(live(-1), gone(0), gone(1), live(0, 1), gone(3)), []int{0, 3}},
		{tower(), []int{0, 1, 2, 3, 4, 5, 6, 7, 8, 9, 10, 11}},
	} {
		if out := impl.LiveOf(c.list); !slices.Equal(out, c.want) {
			t.Errorf("LiveOf(%v) = %v; want %v", c.list, out, c.want)
		}
	}
}

// closedAs returns an owner as it is when it was closed: just its parent and its context stay.
func closedAs(x impl.Owner) impl.Owner {
	return keyed(gone(x.Parent), x.Context...)
}

// clearedAs returns an owner as it is when it was cleared.
func clearedAs(x impl.Owner) impl.Owner {
	return keyed(live(x.Parent), x.Context...)
}

func TestRerunAndDispose(t *testing.T) {
	f := family()
	for _, c := range []struct {
		o      int
		rerun  []impl.Owner
		labels []int
	}{
		{0, owners(clearedAs(f[0]), closedAs(f[1]), f[2], closedAs(f[3]), closedAs(f[4]), f[5], closedAs(f[6]), closedAs(f[7])), []int{31, 30, 30, 21, 22, 20, 12, 11, 13, 10}},
		{1, owners(f[0], clearedAs(f[1]), f[2], closedAs(f[3]), f[4], f[5], f[6], closedAs(f[7])), []int{21, 22, 20, 12, 11}},
		{3, owners(f[0], f[1], f[2], clearedAs(f[3]), f[4], f[5], f[6], f[7]), []int{20}},
		{4, owners(f[0], f[1], f[2], f[3], clearedAs(f[4]), f[5], closedAs(f[6]), f[7]), []int{31, 30, 30}},
		{6, owners(f[0], f[1], f[2], f[3], f[4], f[5], clearedAs(f[6]), f[7]), []int{31, 30, 30}},
	} {
		out, labels := impl.RerunOwner(f, c.o)
		if !sameOwners(out, c.rerun) || !slices.Equal(labels, c.labels) {
			t.Errorf("RerunOwner(%v, %d) = %v, %v; want %v, %v", f, c.o, out, labels, c.rerun, c.labels)
		}
		// The second time there is nothing to clear.
		if again, labels := impl.RerunOwner(out, c.o); !sameOwners(again, c.rerun) || len(labels) != 0 {
			t.Errorf("RerunOwner(%v, %d) = %v, %v", out, c.o, again, labels)
		}
		if c.o == 0 {
			continue
		}
		want := slices.Clone(c.rerun)
		want[c.o] = closedAs(want[c.o])
		disposed, labels := impl.DisposeOwner(f, c.o)
		if !sameOwners(disposed, want) || !slices.Equal(labels, c.labels) {
			t.Errorf("DisposeOwner(%v, %d) = %v, %v; want %v, %v", f, c.o, disposed, labels, want, c.labels)
		}
		// An owner that was disposed is not open, and one that was cleared can still be disposed.
		checkNoChange(t, disposed, c.o)
		if again, labels := impl.DisposeOwner(out, c.o); !sameOwners(again, want) || len(labels) != 0 {
			t.Errorf("DisposeOwner(%v, %d) = %v, %v; want %v", out, c.o, again, labels, want)
		}
	}
}

func TestFirstOwnerStays(t *testing.T) {
	for _, list := range validOwners() {
		checkNotDisposed(t, list, 0)
	}
	list := owners(keyed(live(-1, 1, 2), 3, 4, 5))
	if out, labels := impl.RerunOwner(list, 0); !sameOwners(out, owners(keyed(live(-1), 3, 4, 5))) || !slices.Equal(labels, []int{2, 1}) {
		t.Errorf("RerunOwner(%v, 0) = %v, %v", list, out, labels)
	}
}

func TestKidsThatAreClosedAlready(t *testing.T) {
	list := tower()
	list, labels := impl.DisposeOwner(list, 4)
	if !slices.Equal(labels, []int{11, 10, 9, 8, 7, 6, 5, 4}) {
		t.Fatalf("DisposeOwner = %v, %v", list, labels)
	}
	// What was met is not met again.
	out, labels := impl.DisposeOwner(list, 2)
	if !slices.Equal(labels, []int{3, 2}) || !slices.Equal(impl.LiveOf(out), []int{0, 1}) {
		t.Errorf("DisposeOwner(%v, 2) = %v, %v", list, out, labels)
	}
	// A new kid of an owner with a closed one.
	list, _ = impl.OpenUnder(list[:10], 3)
	list, _ = impl.AddCleanup(list, 10, 40)
	if kids, labels := impl.KidsOf(list, 3), impl.LabelsOf(list, 0); !slices.Equal(kids, []int{10}) || !slices.Equal(labels, []int{40, 3, 2, 1, 0}) {
		t.Errorf("KidsOf = %v, LabelsOf = %v", kids, labels)
	}
}
