package tests

import (
	"math/rand"
	"slices"
	"testing"

	"loop.example/signalgraph/impl"
)

// rowArguments is what the functions of keyed rows take.
type rowArguments struct {
	before  []int
	after   []int
	changes []impl.Change
	rows    []impl.Row
	next    int
}

// roomyRows returns arguments of new memory, with keys, changes and rows to spare.
func roomyRows(x rowArguments) rowArguments {
	changes := append(slices.Clone(x.changes), insert(74, 75), remove(76))
	list := append(slices.Clone(x.rows), rows(77, 78, 79, 80)...)
	return rowArguments{roomyList(x.before), roomyList(x.after), changes[:len(x.changes)], list[:len(x.rows)], x.next}
}

// bareRows returns arguments with what they have to spare, as a copy.
func bareRows(x rowArguments) rowArguments {
	whole := func(list []int) []int { return slices.Clone(list[:cap(list)]) }
	return rowArguments{whole(x.before), whole(x.after), slices.Clone(x.changes[:cap(x.changes)]), slices.Clone(x.rows[:cap(x.rows)]), x.next}
}

func sameRowArguments(a rowArguments, b rowArguments) bool {
	return slices.Equal(a.before, b.before) && slices.Equal(a.after, b.after) && slices.Equal(a.changes, b.changes) && slices.Equal(a.rows, b.rows)
}

// rowResults is what the functions of keyed rows return.
type rowResults struct {
	keys    [][]int
	changes []impl.Change
	rows    []impl.Row
	numbers []int
}

func rowResultsOf(x rowArguments) rowResults {
	patched, _ := impl.ApplyPatch(x.before, x.changes)
	unpatched, _ := impl.ApplyPatch(x.before, nil)
	matched, next := impl.MatchRows(x.rows, x.next, x.after)
	return rowResults{
		keys:    [][]int{impl.StaysOf(x.before, x.after), impl.StaysOf(x.before, x.before), impl.NewKeys(x.before, x.after), impl.NewKeys(nil, x.after), patched, unpatched},
		changes: impl.PatchOf(x.before, x.after),
		rows:    matched,
		numbers: []int{next, impl.MovesOf(x.before, x.after), impl.CostOf(x.before, x.after)},
	}
}

// copiedRowResults returns results as a copy without what they have to spare.
func copiedRowResults(x rowResults) rowResults {
	out := rowResults{changes: slices.Clone(x.changes), rows: slices.Clone(x.rows), numbers: x.numbers}
	for _, keys := range x.keys {
		out.keys = append(out.keys, slices.Clone(keys))
	}
	return out
}

func sameRowResults(a rowResults, b rowResults) bool {
	return sameLists(a.keys, b.keys) && slices.Equal(a.changes, b.changes) && slices.Equal(a.rows, b.rows) && slices.Equal(a.numbers, b.numbers)
}

// checkRowsLeftAlone writes over all results of the functions of keyed rows, and checks that their arguments, and what they return then, are as before.
func checkRowsLeftAlone(t *testing.T, x rowArguments) {
	t.Helper()
	x = roomyRows(x)
	before := bareRows(x)
	first := rowResultsOf(x)
	want := copiedRowResults(first)
	spoilAll(-9, first.keys...)
	spoilAll(remove(-9), first.changes)
	spoilAll(impl.Row{Key: -9, Id: -9}, first.rows)
	if after := bareRows(x); !sameRowArguments(before, after) {
		t.Fatalf("changed: %v is %v", before, after)
	}
	if got := rowResultsOf(x); !sameRowResults(got, want) {
		t.Fatalf("the results of %v are %v; they were %v", x, got, want)
	}
}

func TestKeysAreLeftAlone(t *testing.T) {
	keyTries(func(r *rand.Rand, before []int, after []int) {
		list, next := randomRows(r, before, after)
		checkRowsLeftAlone(t, rowArguments{before, after, randomPatch(r, before), list, next})
		checkRowsLeftAlone(t, rowArguments{before, after, wantedPatch(before, after), list, next})
	})
	// Changes at the beginning and at the end, with keys to spare and without.
	for _, c := range []impl.Change{remove(4), remove(6), insert(7, -1), insert(7, 6), move(4, 6), move(6, -1), move(5, 4)} {
		checkRowsLeftAlone(t, rowArguments{before: []int{4, 5, 6}, after: []int{6, 5}, changes: patch(c)})
		keys := []int{4, 5, 6}
		impl.ApplyPatch(keys, patch(c))
		if !slices.Equal(keys, []int{4, 5, 6}) {
			t.Errorf("ApplyPatch(%v) changed the keys: %v", c, keys)
		}
	}
}

func TestInvalidKeysAreLeftAlone(t *testing.T) {
	for _, keys := range invalidKeys() {
		checkRowsLeftAlone(t, rowArguments{keys, keys, patch(remove(1)), rows(1, 1), 2})
		checkRowsLeftAlone(t, rowArguments{[]int{1, 2}, keys, patch(insert(3, 1), insert(3, 1)), rows(1, 1, 2, 2), 2})
		checkRowsLeftAlone(t, rowArguments{keys, []int{1, 2}, patch(move(2, 1)), rows(1, 1, 1, 2), 3})
	}
	patchTries(func(r *rand.Rand, keys []int, list []impl.Change) {
		if len(list) > 0 {
			list[r.Intn(len(list))].Kind = 3
		}
		checkRowsLeftAlone(t, rowArguments{before: keys, after: keys, changes: list})
	})
}

func TestKeysThatShareMemory(t *testing.T) {
	// Both lists, and the rows' keys, can be parts of one list.
	room := []int{4, 5, 6, 7, 8, 9}
	before, after := room[:4], room[1:5]
	x := rowArguments{before: before, after: after, changes: patch(move(4, 7), insert(8, 4), remove(5)), rows: rows(4, 0, 5, 1), next: 2}
	got := rowResultsOf(x)
	want := rowResults{
		keys:    [][]int{{5, 6, 7}, {4, 5, 6, 7}, {8}, {5, 6, 7, 8}, {6, 7, 4, 8}, {4, 5, 6, 7}},
		changes: patch(remove(4), insert(8, 7)),
		rows:    rows(5, 1, 6, 2, 7, 3, 8, 4),
		numbers: []int{5, 0, 2},
	}
	if !sameRowResults(got, want) || !slices.Equal(room, []int{4, 5, 6, 7, 8, 9}) {
		t.Errorf("the results of %v are %v; want %v", x, got, want)
	}
}
