package tests

import (
	"math"
	"slices"
	"testing"

	"loop.example/signalgraph/impl"
)

func TestKeyLimits(t *testing.T) {
	if impl.MaxKeyed != 10 || impl.MaxKey != 30 || impl.MaxChanges != 40 || impl.MaxIds != 100 {
		t.Errorf("the limits are %d, %d, %d and %d", impl.MaxKeyed, impl.MaxKey, impl.MaxChanges, impl.MaxIds)
	}
	if impl.ChRemove != 0 || impl.ChInsert != 1 || impl.ChMove != 2 {
		t.Errorf("the changes are %d, %d and %d", impl.ChRemove, impl.ChInsert, impl.ChMove)
	}
}

// validKeys returns keys of all sorts that are valid.
func validKeys() [][]int {
	return [][]int{nil, {}, {0}, {30}, {30, 0}, {7, 6, 5}, upTo(0, 9), upTo(21, 30), reversed(upTo(1, 10)), {0, 30, 1, 29, 2, 28, 3, 27, 4, 26}}
}

// invalidKeys returns keys of all sorts that are not valid.
func invalidKeys() [][]int {
	return [][]int{
		// Too many.
		upTo(0, 10), upTo(20, 30), upTo(0, 30), reversed(upTo(0, 10)), slices.Repeat([]int{1}, 1000), upTo(0, 1000),
		// Not different.
		{1, 1}, {0, 0}, {30, 30}, {4, 5, 4}, {4, 5, 5}, {4, 4, 5}, append(upTo(0, 8), 0), append(upTo(0, 8), 8), append(upTo(0, 9), 9),
		// Out of range.
		{-1}, {31}, {-2}, {1, -1}, {31, 1}, {1, 31, 2}, append(upTo(22, 30), 31), append(upTo(0, 8), -1), {math.MaxInt}, {math.MinInt}, {3, math.MaxInt, 4},
	}
}

func TestValidKeys(t *testing.T) {
	for _, keys := range validKeys() {
		if !impl.ValidKeys(keys) {
			t.Errorf("not valid: %v", keys)
		}
	}
	for _, keys := range invalidKeys() {
		if impl.ValidKeys(keys) {
			t.Errorf("valid: %v", keys)
		}
	}
}

// checkNoKeys checks that all functions of two lists of keys return what they return for lists that are not valid.
func checkNoKeys(t *testing.T, before []int, after []int) {
	t.Helper()
	if stays := impl.StaysOf(before, after); len(stays) != 0 {
		t.Errorf("StaysOf(%v, %v) = %v", before, after, stays)
	}
	if moves := impl.MovesOf(before, after); moves != -1 {
		t.Errorf("MovesOf(%v, %v) = %d", before, after, moves)
	}
	if fresh := impl.NewKeys(before, after); len(fresh) != 0 {
		t.Errorf("NewKeys(%v, %v) = %v", before, after, fresh)
	}
	if list := impl.PatchOf(before, after); len(list) != 0 {
		t.Errorf("PatchOf(%v, %v) = %v", before, after, list)
	}
	if cost := impl.CostOf(before, after); cost != -1 {
		t.Errorf("CostOf(%v, %v) = %d", before, after, cost)
	}
}

// checkNoPatch checks that changes are not possible.
func checkNoPatch(t *testing.T, keys []int, list []impl.Change) {
	t.Helper()
	if out, ok := impl.ApplyPatch(keys, list); len(out) != 0 || ok {
		t.Errorf("ApplyPatch(%v, %v) = %v, %v", keys, list, out, ok)
	}
}

// checkNoMatch checks that rows are not matched.
func checkNoMatch(t *testing.T, list []impl.Row, next int, keys []int) {
	t.Helper()
	if out, free := impl.MatchRows(list, next, keys); len(out) != 0 || free != -1 {
		t.Errorf("MatchRows(%v, %d, %v) = %v, %d", list, next, keys, out, free)
	}
}

func TestInvalidKeys(t *testing.T) {
	for _, keys := range invalidKeys() {
		for _, others := range append(validKeys(), []int{1, 2, 3, 4, 5}, keys) {
			checkNoKeys(t, keys, others)
			checkNoKeys(t, others, keys)
		}
		for _, list := range [][]impl.Change{nil, patch(remove(1)), patch(remove(31)), patch(remove(0)), patch(move(1, -1)), patch(insert(15, -1))} {
			checkNoPatch(t, keys, list)
		}
		checkNoMatch(t, nil, 0, keys)
		checkNoMatch(t, rows(1, 0, 5, 1), 2, keys)
	}
}

// checkKeys checks what is told about two lists of keys: those that stay, those that are new, and how many are gone.
func checkKeys(t *testing.T, before []int, after []int, stays []int, fresh []int, gone int) {
	t.Helper()
	if got := impl.StaysOf(before, after); !slices.Equal(got, stays) {
		t.Errorf("StaysOf(%v, %v) = %v; want %v", before, after, got, stays)
	}
	moves := len(after) - len(fresh) - len(stays)
	if got := impl.MovesOf(before, after); got != moves {
		t.Errorf("MovesOf(%v, %v) = %d; want %d", before, after, got, moves)
	}
	if got := impl.NewKeys(before, after); !slices.Equal(got, fresh) {
		t.Errorf("NewKeys(%v, %v) = %v; want %v", before, after, got, fresh)
	}
	if got := impl.CostOf(before, after); got != gone+len(fresh)+moves {
		t.Errorf("CostOf(%v, %v) = %d; want %d", before, after, got, gone+len(fresh)+moves)
	}
}

func TestKeysThatAreTheSame(t *testing.T) {
	for _, keys := range validKeys() {
		checkKeys(t, keys, keys, keys, nil, 0)
		if list := impl.PatchOf(keys, keys); len(list) != 0 {
			t.Errorf("PatchOf(%v, %v) = %v", keys, keys, list)
		}
		if out, ok := impl.ApplyPatch(keys, nil); !ok || !slices.Equal(out, keys) {
			t.Errorf("ApplyPatch(%v) = %v, %v", keys, out, ok)
		}
	}
}

func TestEmptyKeys(t *testing.T) {
	for _, keys := range validKeys() {
		for _, none := range [][]int{nil, {}} {
			checkKeys(t, none, keys, nil, keys, 0)
			checkKeys(t, keys, none, nil, nil, len(keys))
		}
	}
	checkPatches(t,
		patchCase{nil, nil, nil},
		patchCase{nil, []int{5}, patch(insert(5, -1))},
		patchCase{nil, []int{5, 0, 30}, patch(insert(5, -1), insert(0, 5), insert(30, 0))},
		patchCase{[]int{5}, nil, patch(remove(5))},
		patchCase{[]int{5, 0, 30}, nil, patch(remove(30), remove(0), remove(5))},
	)
}

func TestReversedKeys(t *testing.T) {
	for _, keys := range validKeys() {
		// Each key alone is one of the longest lists, so that which comes first stays.
		after := reversed(keys)
		checkKeys(t, keys, after, after[:min(1, len(after))], nil, 0)
	}
	// With keys that are gone and new, and with others that stay in order.
	checkKeys(t, []int{1, 9, 2, 8, 3}, []int{7, 3, 6, 2, 1}, []int{3}, []int{7, 6}, 2)
	checkKeys(t, []int{1, 2, 3, 4}, []int{4, 3, 1, 2}, []int{1, 2}, nil, 0)
	checkKeys(t, []int{1, 2, 3, 4}, []int{3, 4, 2, 1}, []int{3, 4}, nil, 0)
	checkPatches(t,
		patchCase{[]int{1, 2, 3, 4}, []int{4, 3, 2, 1}, patch(move(3, 4), move(2, 3), move(1, 2))},
		patchCase{[]int{4, 3, 2, 1}, []int{1, 2, 3, 4}, patch(move(2, 1), move(3, 2), move(4, 3))},
		patchCase{[]int{1, 9, 2, 8, 3}, []int{7, 3, 6, 2, 1}, patch(remove(8), remove(9), insert(7, -1), insert(6, 3), move(2, 6), move(1, 2))},
	)
}

func TestSeveralLongestLists(t *testing.T) {
	before := []int{1, 2, 3, 4, 5, 6}
	for _, c := range []struct{ after, want []int }{
		// The first key that comes first, be it greater or less.
		{[]int{2, 1}, []int{2}},
		{[]int{2, 1, 4, 3}, []int{2, 4}},
		{[]int{2, 1, 4, 3, 6, 5}, []int{2, 4, 6}},
		{[]int{4, 5, 1, 2}, []int{4, 5}},
		{[]int{4, 1, 5, 2}, []int{4, 5}},
		{[]int{4, 1, 2, 5}, []int{1, 2, 5}},
		{[]int{4, 5, 6, 1, 2, 3}, []int{4, 5, 6}},
		{[]int{4, 1, 5, 2, 6, 3}, []int{4, 5, 6}},
		{[]int{3, 4, 1, 2, 6}, []int{3, 4, 6}},
		// The second one that comes first, and the third one.
		{[]int{1, 3, 2}, []int{1, 3}},
		{[]int{1, 5, 3, 4, 2}, []int{1, 3, 4}},
		{[]int{1, 4, 3, 2, 5}, []int{1, 4, 5}},
		{[]int{1, 2, 6, 4, 5, 3}, []int{1, 2, 4, 5}},
		{[]int{1, 2, 5, 6, 3, 4}, []int{1, 2, 5, 6}},
		{[]int{1, 2, 4, 3}, []int{1, 2, 4}},
		{[]int{1, 3, 2, 5, 4, 6}, []int{1, 3, 5, 6}},
		// A key that comes first, but in no longest list, or in one that goes on late.
		{[]int{6, 1, 2, 3}, []int{1, 2, 3}},
		{[]int{5, 1, 6, 2, 3}, []int{1, 2, 3}},
		{[]int{3, 1, 2, 4}, []int{1, 2, 4}},
		{[]int{3, 6, 1, 2, 4, 5}, []int{1, 2, 4, 5}},
		{[]int{2, 6, 1, 3, 5, 4}, []int{2, 3, 5}},
		{[]int{3, 6, 2, 1, 4, 5}, []int{3, 4, 5}},
		// A key that could follow, but from which too few follow.
		{[]int{1, 6, 2, 3, 4}, []int{1, 2, 3, 4}},
		{[]int{2, 5, 3, 6, 4}, []int{2, 5, 6}},
		{[]int{1, 5, 2, 6, 3, 4}, []int{1, 2, 3, 4}},
	} {
		checkKeys(t, before, c.after, c.want, nil, len(before)-len(c.after))
	}
	// It counts where keys are, not how great they are.
	checkKeys(t, []int{30, 0, 20, 10}, []int{0, 30, 10, 20}, []int{0, 10}, nil, 0)
	checkKeys(t, []int{30, 20, 10, 0}, []int{0, 10, 20, 30}, []int{0}, nil, 0)
	// The other way round another list may stay, of as many keys.
	checkKeys(t, []int{1, 2, 3, 4}, []int{3, 4, 1, 2}, []int{3, 4}, nil, 0)
	checkKeys(t, []int{3, 4, 1, 2}, []int{1, 2, 3, 4}, []int{1, 2}, nil, 0)
	// The most keys, in five pairs and in two halves.
	checkKeys(t, upTo(0, 9), []int{1, 0, 3, 2, 5, 4, 7, 6, 9, 8}, []int{1, 3, 5, 7, 9}, nil, 0)
	checkKeys(t, upTo(0, 9), []int{5, 0, 6, 1, 7, 2, 8, 3, 9, 4}, []int{5, 6, 7, 8, 9}, nil, 0)
}

// patchCase is two lists of keys, and the changes from one to the other one.
type patchCase struct {
	before []int
	after  []int
	want   []impl.Change
}

func checkPatches(t *testing.T, cases ...patchCase) {
	t.Helper()
	for _, c := range cases {
		if list := impl.PatchOf(c.before, c.after); !slices.Equal(list, c.want) {
			t.Errorf("PatchOf(%v, %v) = %v; want %v", c.before, c.after, list, c.want)
		}
		if out, ok := impl.ApplyPatch(c.before, c.want); !ok || !slices.Equal(out, c.after) {
			t.Errorf("ApplyPatch(%v, %v) = %v, %v; want %v", c.before, c.want, out, ok, c.after)
		}
		if cost := impl.CostOf(c.before, c.after); cost != len(c.want) {
			t.Errorf("CostOf(%v, %v) = %d; want %d", c.before, c.after, cost, len(c.want))
		}
	}
}

func TestPatchOf(t *testing.T) {
	checkPatches(t,
		// Keys that are removed, from the last one to the first one.
		patchCase{[]int{1, 2, 3, 4, 5}, []int{2, 4}, patch(remove(5), remove(3), remove(1))},
		patchCase{[]int{9, 3, 7}, []int{3}, patch(remove(7), remove(9))},
		// Keys that are inserted: ahead of all, in between, and behind all.
		patchCase{[]int{1, 2}, []int{8, 1, 6, 7, 2, 9}, patch(insert(8, -1), insert(6, 1), insert(7, 6), insert(9, 2))},
		// All keys are others.
		patchCase{[]int{1, 2}, []int{3, 4}, patch(remove(2), remove(1), insert(3, -1), insert(4, 3))},
		// One key that moves: to the end, to the beginning, and in between.
		patchCase{[]int{1, 2, 3, 4}, []int{2, 3, 4, 1}, patch(move(1, 4))},
		patchCase{[]int{1, 2, 3, 4}, []int{4, 1, 2, 3}, patch(move(4, -1))},
		patchCase{[]int{1, 2, 3, 4}, []int{2, 3, 1, 4}, patch(move(1, 3))},
		patchCase{[]int{1, 2, 3, 4}, []int{1, 4, 2, 3}, patch(move(4, 1))},
		patchCase{[]int{1, 2}, []int{2, 1}, patch(move(1, 2))},
		// Keys behind others that move, that are inserted, and that move later.
		patchCase{[]int{1, 2, 3, 4, 5}, []int{3, 4, 5, 1, 2}, patch(move(1, 5), move(2, 1))},
		patchCase{[]int{1, 2, 3, 4, 5}, []int{4, 5, 1, 2, 3}, patch(move(4, -1), move(5, 4))},
		patchCase{[]int{1, 2, 3, 4, 5}, []int{3, 4, 5, 2, 1}, patch(move(2, 5), move(1, 2))},
		patchCase{[]int{1, 2, 3, 4, 5}, []int{5, 4, 1, 2, 3}, patch(move(5, -1), move(4, 5))},
		patchCase{[]int{1, 2, 3, 4}, []int{2, 9, 3, 8, 4, 1}, patch(insert(9, 2), insert(8, 3), move(1, 4))},
		patchCase{[]int{1, 2, 3, 4}, []int{2, 3, 4, 9, 1, 8}, patch(insert(9, 4), move(1, 9), insert(8, 1))},
		patchCase{[]int{1, 2, 3, 4}, []int{2, 1, 4, 3}, patch(move(1, 2), move(3, 4))},
		// Removed, inserted and moved; what is removed is so first, what is moved and inserted is so in the order after.
		patchCase{[]int{5, 1, 2, 6, 3}, []int{3, 7, 1, 8, 2}, patch(remove(6), remove(5), move(3, -1), insert(7, 3), insert(8, 1))},
		patchCase{[]int{1, 2, 3}, []int{0, 3, 2, 30}, patch(remove(1), insert(0, -1), move(2, 3), insert(30, 2))},
		// The most changes that are needed: there are as many keys in between as there can be, and none.
		patchCase{upTo(0, 2), upTo(11, 13), patch(remove(2), remove(1), remove(0), insert(11, -1), insert(12, 11), insert(13, 12))},
	)
	if list := impl.PatchOf(upTo(0, 9), upTo(21, 30)); len(list) != 20 || list[9] != remove(0) || list[10] != insert(21, -1) || list[19] != insert(30, 29) {
		t.Errorf("PatchOf = %v", list)
	}
}

func TestApplyPatch(t *testing.T) {
	for _, c := range []struct {
		keys []int
		list []impl.Change
		want []int
	}{
		{[]int{4, 5, 6}, patch(remove(4)), []int{5, 6}},
		{[]int{4, 5, 6}, patch(remove(5)), []int{4, 6}},
		{[]int{4, 5, 6}, patch(remove(6)), []int{4, 5}},
		{[]int{0}, patch(remove(0)), nil},
		{[]int{4, 5, 6}, patch(insert(0, -1)), []int{0, 4, 5, 6}},
		{[]int{4, 5, 6}, patch(insert(30, 4)), []int{4, 30, 5, 6}},
		{[]int{4, 5, 6}, patch(insert(7, 6)), []int{4, 5, 6, 7}},
		{[]int{0, 5}, patch(insert(7, 0)), []int{0, 7, 5}},
		{nil, patch(insert(7, -1)), []int{7}},
		{[]int{4, 5, 6}, patch(move(6, -1)), []int{6, 4, 5}},
		{[]int{4, 5, 6}, patch(move(4, 6)), []int{5, 6, 4}},
		{[]int{4, 5, 6}, patch(move(4, 5)), []int{5, 4, 6}},
		{[]int{4, 5, 6}, patch(move(6, 4)), []int{4, 6, 5}},
		// A key that is where it is to be.
		{[]int{4, 5, 6}, patch(move(4, -1)), []int{4, 5, 6}},
		{[]int{4, 5, 6}, patch(move(5, 4)), []int{4, 5, 6}},
		{[]int{4, 5, 6}, patch(move(6, 5)), []int{4, 5, 6}},
		{[]int{4}, patch(move(4, -1)), []int{4}},
		// Changes of what changes made, in any order of kinds.
		{[]int{4, 5, 6}, patch(insert(7, 5), insert(8, 7), move(4, 8), remove(7), insert(7, -1)), []int{7, 5, 8, 4, 6}},
		{[]int{4, 5, 6}, patch(remove(5), insert(5, 6), remove(4), insert(4, 5)), []int{6, 5, 4}},
		{[]int{4, 5, 6}, patch(move(4, 6), move(4, -1), move(4, 5)), []int{5, 4, 6}},
		{nil, patch(insert(1, -1), insert(2, -1), insert(3, 2), remove(2), remove(1), remove(3)), nil},
		// More than MaxKeyed on the way.
		{upTo(0, 9), patch(insert(10, -1), remove(9)), append([]int{10}, upTo(0, 8)...)},
		{upTo(0, 9), patch(insert(10, 9), insert(30, 10), move(0, 30), remove(5), remove(6)), []int{1, 2, 3, 4, 7, 8, 9, 10, 30, 0}},
	} {
		if out, ok := impl.ApplyPatch(c.keys, c.list); !ok || !slices.Equal(out, c.want) {
			t.Errorf("ApplyPatch(%v, %v) = %v, %v; want %v", c.keys, c.list, out, ok, c.want)
		}
	}
}

// insertions returns changes that insert the keys from one to another one, one behind the other.
func insertions(first int, last int) []impl.Change {
	var list []impl.Change
	for key := first; key <= last; key++ {
		list = append(list, insert(key, key-1))
	}
	return list
}

// removals returns changes that remove the keys from one to another one.
func removals(first int, last int) []impl.Change {
	var list []impl.Change
	for key := first; key <= last; key++ {
		list = append(list, remove(key))
	}
	return list
}

func TestLongPatches(t *testing.T) {
	keys := upTo(0, 9)
	// All keys that there are, on the way, and twice MaxKeyed removed.
	list := append(insertions(10, 29), removals(5, 24)...)
	if out, ok := impl.ApplyPatch(keys, list); !ok || !slices.Equal(out, append(upTo(0, 4), upTo(25, 29)...)) {
		t.Errorf("ApplyPatch(%v, %v) = %v, %v", keys, list, out, ok)
	}
	list = append(insertions(0, 30)[:30], removals(0, 9)...)
	checkNoPatch(t, nil, list)
	list = append(insertions(10, 30), removals(0, 18)...)
	checkNoPatch(t, keys, list)
	if out, ok := impl.ApplyPatch(keys[1:], append(insertions(10, 29), removals(1, 19)...)); !ok || !slices.Equal(out, upTo(20, 29)) {
		t.Errorf("ApplyPatch = %v, %v", out, ok)
	}
	// MaxChanges, and one change more.
	list = slices.Repeat(patch(move(0, 9), move(0, -1)), 20)
	if out, ok := impl.ApplyPatch(keys, list); !ok || !slices.Equal(out, keys) {
		t.Errorf("ApplyPatch(%v, %v) = %v, %v", keys, list, out, ok)
	}
	checkNoPatch(t, keys, append(list, move(0, -1)))
	checkNoPatch(t, keys, slices.Repeat(list, 100))
	checkNoPatch(t, nil, make([]impl.Change, 1000))
	// One key too many at the end.
	checkNoPatch(t, keys, patch(insert(10, -1)))
	checkNoPatch(t, keys[:9], patch(insert(10, -1), insert(11, -1)))
	checkNoPatch(t, keys, patch(insert(10, -1), insert(11, -1), remove(0)))
}

func TestInvalidChanges(t *testing.T) {
	keys := []int{4, 5, 0, 30}
	list := patch(
		// What is not there can not be removed, and nothing is ahead of what is removed.
		remove(6), remove(-1), remove(31), remove(math.MaxInt), remove(math.MinInt),
		impl.Change{Kind: impl.ChRemove, Key: 4}, impl.Change{Kind: impl.ChRemove, Key: 5, At: 4}, impl.Change{Kind: impl.ChRemove, Key: 4, At: 4}, impl.Change{Kind: impl.ChRemove, Key: 4, At: -2},
		// What is there, or is no key, can not be inserted, nor behind what is not there.
		insert(4, -1), insert(30, 5), insert(4, 4), insert(-1, -1), insert(31, -1), insert(-2, 4), insert(31, 4), insert(math.MaxInt, 4), insert(math.MinInt, -1),
		insert(6, 7), insert(6, 6), insert(6, -2), insert(6, 31), insert(6, math.MaxInt), insert(6, math.MinInt),
		// What is not there can not be moved, nor behind what is not there or behind itself.
		move(6, -1), move(6, 4), move(6, 6), move(-1, -1), move(31, 4), move(4, 6), move(4, 4), move(0, 0), move(4, -2), move(4, 31), move(4, math.MaxInt), move(4, math.MinInt), move(math.MaxInt, 4),
	)
	for _, kind := range []int{-1, 3, 4, math.MaxInt, math.MinInt} {
		list = append(list, impl.Change{Kind: kind, Key: 4, At: -1}, impl.Change{Kind: kind, Key: 6, At: -1}, impl.Change{Kind: kind, Key: 4, At: 5}, impl.Change{Kind: kind})
	}
	for _, c := range list {
		checkNoPatch(t, keys, patch(c))
		// Behind others, ahead of others, and with others that would make up for it.
		checkNoPatch(t, keys, patch(move(5, 30), c))
		checkNoPatch(t, keys, patch(c, move(5, 30)))
		checkNoPatch(t, keys, patch(c, remove(c.Key)))
	}
	// A key that is gone, or is not there yet.
	checkNoPatch(t, keys, patch(remove(4), remove(4)))
	checkNoPatch(t, keys, patch(remove(4), move(4, -1)))
	checkNoPatch(t, keys, patch(remove(4), insert(6, 4)))
	checkNoPatch(t, keys, patch(remove(4), move(5, 4)))
	checkNoPatch(t, keys, patch(insert(6, 7), insert(7, -1)))
	checkNoPatch(t, keys, patch(insert(6, -1), insert(6, -1)))
	checkNoPatch(t, nil, patch(remove(0)))
	checkNoPatch(t, nil, patch(move(0, -1)))
	checkNoPatch(t, nil, patch(insert(0, 0)))
}

func TestMatchRows(t *testing.T) {
	for _, c := range []struct {
		list  []impl.Row
		next  int
		keys  []int
		want  []impl.Row
		after int
	}{
		// None ahead, none behind.
		{nil, 0, nil, nil, 0},
		{nil, 7, nil, nil, 7},
		{nil, 100, nil, nil, 100},
		{rows(4, 0, 5, 1), 2, nil, nil, 2},
		{nil, 0, []int{30, 0, 7}, rows(30, 0, 0, 1, 7, 2), 3},
		// Rows that stay, in another order, with others ahead of them and behind them.
		{rows(4, 0, 5, 1), 2, []int{4, 5}, rows(4, 0, 5, 1), 2},
		{rows(4, 0, 5, 1), 2, []int{5, 4}, rows(5, 1, 4, 0), 2},
		{rows(4, 9, 5, 3), 10, []int{6, 5, 7, 4, 8}, rows(6, 10, 5, 3, 7, 11, 4, 9, 8, 12), 13},
		{rows(4, 1, 5, 0, 6, 2), 3, []int{6, 4}, rows(6, 2, 4, 1), 3},
		// Numbers that are gone, or were never there, are not taken again.
		{rows(4, 0, 5, 1), 5, []int{6}, rows(6, 5), 6},
		{rows(4, 2, 5, 3), 4, []int{5, 6}, rows(5, 3, 6, 4), 5},
		// The last number that can be taken is 99; then 100 is free, and cannot be taken.
		{nil, 99, []int{6}, rows(6, 99), 100},
		{nil, 90, upTo(0, 9), rows(0, 90, 1, 91, 2, 92, 3, 93, 4, 94, 5, 95, 6, 96, 7, 97, 8, 98, 9, 99), 100},
		{rows(4, 99), 100, []int{4}, rows(4, 99), 100},
		{rows(4, 98), 99, []int{5, 4}, rows(5, 99, 4, 98), 100},
		// Numbers in any order, from 0 to the last one that is not free.
		{rows(30, 99, 0, 0, 15, 50), 100, []int{0, 15, 30}, rows(0, 0, 15, 50, 30, 99), 100},
		{rows(0, 0), 1, []int{0}, rows(0, 0), 1},
	} {
		if out, next := impl.MatchRows(c.list, c.next, c.keys); !slices.Equal(out, c.want) || next != c.after {
			t.Errorf("MatchRows(%v, %d, %v) = %v, %d; want %v, %d", c.list, c.next, c.keys, out, next, c.want, c.after)
		}
	}
	// One number too many.
	checkNoMatch(t, nil, 100, []int{6})
	checkNoMatch(t, nil, 99, []int{6, 7})
	checkNoMatch(t, nil, 91, upTo(0, 9))
	checkNoMatch(t, rows(4, 0), 100, []int{4, 5})
	checkNoMatch(t, rows(4, 0), 99, []int{5, 4, 6})
}

func TestInvalidRows(t *testing.T) {
	for _, c := range []struct {
		list []impl.Row
		next int
	}{
		// The next number is none.
		{nil, -1}, {nil, 101}, {nil, math.MaxInt}, {nil, math.MinInt}, {rows(4, 0), 101}, {rows(4, 0), -1}, {rows(4, 0), math.MinInt}, {rows(4, math.MaxInt), math.MinInt}, {rows(4, 100), 101},
		// A number is less than 0, or not less than the next one.
		{rows(4, -1), 3}, {rows(4, 0, 5, -1), 3}, {rows(4, -2), 0}, {rows(4, 3), 3}, {rows(4, 0, 5, 4), 3}, {rows(4, 0), 0}, {rows(4, 100), 100}, {rows(4, math.MaxInt), 3}, {rows(4, math.MinInt), 3},
		// Numbers are not different.
		{rows(4, 0, 5, 0), 3}, {rows(4, 1, 5, 0, 6, 1), 3}, {rows(4, 99, 5, 99), 100},
		// Keys are not valid.
		{rows(4, 0, 4, 1), 3}, {rows(-1, 0), 3}, {rows(31, 0), 3}, {rows(4, 0, 5, 1, 4, 2), 3}, {rows(4, 0, 4, 0), 3}, {rows(math.MaxInt, 0), 3}, {rows(math.MinInt, 0), 3},
		{rows(0, 0, 1, 1, 2, 2, 3, 3, 4, 4, 5, 5, 6, 6, 7, 7, 8, 8, 9, 9, 10, 10), 50},
		{make([]impl.Row, 1000), 50},
	} {
		for _, keys := range [][]int{nil, {4}, {5}, {4, 5}, {0}, {6, 7}} {
			checkNoMatch(t, c.list, c.next, keys)
		}
	}
	// The most rows.
	list := rows(0, 0, 1, 1, 2, 2, 3, 3, 4, 4, 5, 5, 6, 6, 7, 7, 8, 8, 9, 9)
	if out, next := impl.MatchRows(list, 10, upTo(0, 9)); !slices.Equal(out, list) || next != 10 {
		t.Errorf("MatchRows = %v, %d", out, next)
	}
}
