package tests

import (
	"math/rand"
	"slices"
	"testing"

	"loop.example/signalgraph/impl"
)

// longestLists returns how many of the longest lists of keys there are that are in both lists in one order.
func longestLists(before []int, after []int) int {
	shared := both(after, before)
	lengths, counts := make([]int, len(shared)), make([]int, len(shared))
	most, lists := 0, 0
	for i, key := range shared {
		lengths[i], counts[i] = 1, 1
		for k, ahead := range shared[:i] {
			if slices.Index(before, ahead) > slices.Index(before, key) || lengths[k]+1 < lengths[i] {
				continue
			}
			if lengths[k]+1 > lengths[i] {
				lengths[i], counts[i] = lengths[k]+1, 0
			}
			counts[i] += counts[k]
		}
		if lengths[i] > most {
			most, lists = lengths[i], 0
		}
		if lengths[i] == most {
			lists += counts[i]
		}
	}
	return lists
}

// kindsIn returns how many changes are of a kind.
func kindsIn(list []impl.Change, kind int) int {
	return len(slices.DeleteFunc(slices.Clone(list), func(c impl.Change) bool { return c.Kind != kind }))
}

func TestTriedKeysAreOfAllSorts(t *testing.T) {
	counts := map[string]int{}
	count := func(name string, holds bool) {
		if holds {
			counts[name]++
		}
	}
	keyTries(func(r *rand.Rand, before []int, after []int) {
		shared := both(after, before)
		stays := wantedStays(before, after)
		list := wantedPatch(before, after)
		count("no keys before", len(before) == 0)
		count("no keys after", len(after) == 0)
		count("the most keys", len(before) == impl.MaxKeyed && len(after) == impl.MaxKeyed)
		count("nothing changes", len(before) > 1 && slices.Equal(before, after))
		count("the same keys move", len(list) > 0 && len(shared) == len(before) && len(shared) == len(after))
		count("no key stays", len(before) > 0 && len(after) > 0 && len(shared) == 0)
		count("reverse order", len(shared) > 3 && len(stays) == 1)
		count("several longest lists", len(stays) > 1 && longestLists(before, after) > 1)
		count("many longest lists", len(stays) > 2 && longestLists(before, after) > 4)
		count("one longest list", len(stays) < len(shared) && longestLists(before, after) == 1)
		count("the first key moves", len(after) > 1 && slices.Contains(list, move(after[0], -1)))
		count("keys are removed, inserted and moved", kindsIn(list, impl.ChRemove) > 0 && kindsIn(list, impl.ChInsert) > 0 && kindsIn(list, impl.ChMove) > 0)
		count("a key behind one that moves", slices.ContainsFunc(list, func(c impl.Change) bool {
			return slices.ContainsFunc(list, func(x impl.Change) bool { return x.Kind == impl.ChMove && x.Key == c.At })
		}))
		count("the least key", slices.Contains(after, 0) && slices.Contains(before, 0))
		count("the greatest key", slices.Contains(after, impl.MaxKey) && slices.Contains(before, impl.MaxKey))
	})
	patchTries(func(r *rand.Rand, keys []int, list []impl.Change) {
		_, ok, most := wantedApply(keys, list)
		count("no changes", len(list) == 0)
		count("possible changes", ok && len(list) > 3)
		count("changes that are not possible", !ok && most <= impl.MaxKeyed)
		count("too many keys on the way", ok && most > impl.MaxKeyed)
		count("too many keys at the end", !ok && most > impl.MaxKeyed)
		count("the most changes", ok && len(list) == impl.MaxChanges)
		count("too many changes", len(list) > impl.MaxChanges)
		count("moves alone", ok && len(list) > 0 && kindsIn(list, impl.ChMove) == len(list))
	})
	rowTries(func(r *rand.Rand, list []impl.Row, next int, keys []int) {
		out, after := wantedRows(list, next, keys)
		count("no free numbers", after == -1)
		count("the last free number", after == impl.MaxIds && next < after)
		count("no number is taken", after == next && len(out) > 0)
		count("rows stay between new ones", after > next+1 && len(out) > after-next+1)
	})
	for _, name := range []string{
		"no keys before", "no keys after", "the most keys", "nothing changes", "the same keys move", "no key stays", "reverse order", "several longest lists", "many longest lists", "one longest list",
		"the first key moves", "keys are removed, inserted and moved", "a key behind one that moves", "the least key", "the greatest key",
		"no changes", "possible changes", "changes that are not possible", "too many keys on the way", "too many keys at the end", "the most changes", "too many changes", "moves alone",
		"no free numbers", "the last free number", "no number is taken", "rows stay between new ones",
	} {
		if counts[name] < 30 {
			t.Errorf("%d times: %s", counts[name], name)
		}
	}
}

// isValidKeys is another way to tell, by crossing out what is allowed.
func isValidKeys(keys []int) bool {
	left := upTo(0, impl.MaxKey)
	for _, key := range keys {
		rest := apart(left, []int{key})
		if len(rest) == len(left) {
			return false
		}
		left = rest
	}
	return len(left) >= impl.MaxKey+1-impl.MaxKeyed
}

// withOut returns a list without the number at one place.
func withOut(list []int, at int) []int {
	return slices.Delete(slices.Clone(list), at, at+1)
}

func TestP70KeysCanBeLeftOut(t *testing.T) {
	keyTries(func(r *rand.Rand, keys []int, _ []int) {
		if !impl.ValidKeys(keys) {
			t.Fatalf("not valid: %v", keys)
		}
		for at := range keys {
			if !impl.ValidKeys(withOut(keys, at)) {
				t.Errorf("not valid: %v", withOut(keys, at))
			}
		}
	})
}

func TestP70OtherKeysAreNotValid(t *testing.T) {
	valid, invalid := 0, 0
	keyTries(func(r *rand.Rand, keys []int, others []int) {
		keys = slices.Clone(keys)
		if len(keys) > 0 && r.Intn(4) > 0 {
			keys[r.Intn(len(keys))] = r.Intn(impl.MaxKey+5) - 2
		} else {
			keys = append(keys, r.Intn(impl.MaxKey+1))
		}
		want := isValidKeys(keys)
		if impl.ValidKeys(keys) != want {
			t.Errorf("ValidKeys(%v) = %v", keys, !want)
		}
		if want {
			valid++
			return
		}
		invalid++
		checkNoKeys(t, keys, others)
		checkNoKeys(t, others, keys)
		checkNoPatch(t, keys, nil)
		checkNoMatch(t, nil, 0, keys)
	})
	if valid < 500 || invalid < 500 {
		t.Errorf("%d valid and %d invalid lists", valid, invalid)
	}
}

func TestP71KeysThatStayAreInOrderInBoth(t *testing.T) {
	keyTries(func(r *rand.Rand, before []int, after []int) {
		stays := impl.StaysOf(before, after)
		if !isWithin(stays, before) || !isWithin(stays, after) {
			t.Errorf("StaysOf(%v, %v) = %v", before, after, stays)
		}
		for _, keys := range [][]int{before, after} {
			if stays := impl.StaysOf(keys, keys); !slices.Equal(stays, keys) {
				t.Errorf("StaysOf(%v, %v) = %v", keys, keys, stays)
			}
		}
	})
}

// checkStays checks which keys stay, and that no more of them could.
func checkStays(t *testing.T, before []int, after []int) {
	t.Helper()
	stays := impl.StaysOf(before, after)
	if want := wantedStays(before, after); !slices.Equal(stays, want) {
		t.Errorf("StaysOf(%v, %v) = %v; want %v", before, after, stays, want)
	}
	for _, key := range apart(both(after, before), stays) {
		more := append(slices.Clone(stays), key)
		if slices.Equal(both(before, more), both(after, more)) {
			t.Errorf("StaysOf(%v, %v) = %v; %d could stay, too", before, after, stays, key)
		}
	}
	if back := impl.StaysOf(after, before); len(back) != len(stays) {
		t.Errorf("StaysOf(%v, %v) = %v; the other way round %v", before, after, stays, back)
	}
}

func TestP72NoMoreKeysCanStay(t *testing.T) {
	keyTries(func(r *rand.Rand, before []int, after []int) { checkStays(t, before, after) })
}

func TestP72NoMoreKeysCanStayInAnyOrder(t *testing.T) {
	orderTries(func(before []int, after []int) { checkStays(t, before, after) })
}

func TestP73MovesAreWhatDoesNotStay(t *testing.T) {
	keyTries(func(r *rand.Rand, before []int, after []int) {
		moves := impl.MovesOf(before, after)
		if want := len(both(after, before)) - len(impl.StaysOf(before, after)); moves != want {
			t.Errorf("MovesOf(%v, %v) = %d; want %d", before, after, moves, want)
		}
		if back := impl.MovesOf(after, before); back != moves {
			t.Errorf("MovesOf(%v, %v) = %d; the other way round %d", before, after, moves, back)
		}
		checkBrokenKeys(t, r, before, after)
	})
}

// checkBrokenKeys checks that nothing is told about keys of which one list is not valid.
func checkBrokenKeys(t *testing.T, r *rand.Rand, before []int, after []int) {
	t.Helper()
	wrong := []int{-1, impl.MaxKey + 1, append(slices.Clone(after), -2)[0]}[r.Intn(3)]
	broken := slices.Insert(slices.Clone(after), r.Intn(len(after)+1), wrong)
	checkNoKeys(t, before, broken)
	checkNoKeys(t, broken, before)
}

func TestP74NewKeysWereNotThere(t *testing.T) {
	keyTries(func(r *rand.Rand, before []int, after []int) {
		if fresh, want := impl.NewKeys(before, after), apart(after, before); !slices.Equal(fresh, want) {
			t.Errorf("NewKeys(%v, %v) = %v; want %v", before, after, fresh, want)
		}
	})
}

func TestP75PatchesDoWhatTheyShould(t *testing.T) {
	check := func(before []int, after []int) {
		list := impl.PatchOf(before, after)
		if out, ok := impl.ApplyPatch(before, list); !ok || !slices.Equal(out, after) {
			t.Errorf("ApplyPatch(%v, %v) = %v, %v; want %v", before, list, out, ok, after)
		}
	}
	keyTries(func(r *rand.Rand, before []int, after []int) { check(before, after) })
	orderTries(check)
}

// keysOfKind returns the keys of the changes of a kind, in order.
func keysOfKind(list []impl.Change, kind int) []int {
	var keys []int
	for _, c := range list {
		if c.Kind == kind {
			keys = append(keys, c.Key)
		}
	}
	return keys
}

func TestP76PatchesChangeNoMoreThanTheyMust(t *testing.T) {
	check := func(before []int, after []int) {
		list := impl.PatchOf(before, after)
		if gone := keysOfKind(list, impl.ChRemove); !slices.Equal(gone, apart(reversed(before), after)) {
			t.Errorf("PatchOf(%v, %v) = %v; it removes %v", before, after, list, gone)
		}
		if fresh := keysOfKind(list, impl.ChInsert); !slices.Equal(fresh, impl.NewKeys(before, after)) {
			t.Errorf("PatchOf(%v, %v) = %v; it inserts %v", before, after, list, fresh)
		}
		if moved := keysOfKind(list, impl.ChMove); len(moved) != impl.MovesOf(before, after) {
			t.Errorf("PatchOf(%v, %v) = %v; it moves %v", before, after, list, moved)
		}
		if want := wantedPatch(before, after); !slices.Equal(list, want) {
			t.Errorf("PatchOf(%v, %v) = %v; want %v", before, after, list, want)
		}
	}
	keyTries(func(r *rand.Rand, before []int, after []int) { check(before, after) })
	orderTries(check)
}

// nextTo returns all that one change can make of keys of which each is at most the greatest one.
func nextTo(keys []int, most int) [][]int {
	var lists [][]int
	for kind := range 3 {
		for key := range most + 1 {
			for at := range most + 2 {
				if out, ok := impl.ApplyPatch(keys, patch(impl.Change{Kind: kind, Key: key, At: at - 1})); ok {
					lists = append(lists, out)
				}
			}
		}
	}
	return lists
}

// leastChanges returns with how few changes each of some lists is made of the keys, by trying all changes.
func leastChanges(keys []int, lists [][]int, next [][][]int) []int {
	indexOf := func(list []int) int {
		return slices.IndexFunc(lists, func(x []int) bool { return slices.Equal(x, list) })
	}
	least := slices.Repeat([]int{-1}, len(lists))
	queue := []int{indexOf(keys)}
	least[queue[0]] = 0
	for ; len(queue) > 0; queue = queue[1:] {
		for _, list := range next[queue[0]] {
			if i := indexOf(list); least[i] == -1 {
				least[i] = least[queue[0]] + 1
				queue = append(queue, i)
			}
		}
	}
	return least
}

func TestP76NoFewerChangesWouldDo(t *testing.T) {
	lists := smallLists(3)
	var next [][][]int
	for _, list := range lists {
		next = append(next, nextTo(list, 3))
	}
	for _, before := range lists {
		least := leastChanges(before, lists, next)
		for i, after := range lists {
			if list := impl.PatchOf(before, after); len(list) != least[i] || impl.CostOf(before, after) != least[i] {
				t.Errorf("PatchOf(%v, %v) = %v; %d changes would do", before, after, list, least[i])
			}
		}
	}
	if len(lists) != 65 {
		t.Errorf("%d lists", len(lists))
	}
}

func TestP77ChangesFollowEachOther(t *testing.T) {
	followed := 0
	patchTries(func(r *rand.Rand, keys []int, list []impl.Change) {
		out, ok := impl.ApplyPatch(keys, list)
		if len(list) > impl.MaxChanges {
			checkNoPatch(t, keys, list)
			return
		}
		if want, okWant, _ := wantedApply(keys, list); ok != okWant || !slices.Equal(out, want) {
			t.Errorf("ApplyPatch(%v, %v) = %v, %v; want %v, %v", keys, list, out, ok, want, okWant)
		}
		if len(list) == 0 {
			return
		}
		last := len(list) - 1
		rest, okRest := impl.ApplyPatch(keys, list[:last])
		if !okRest {
			return
		}
		followed++
		if want, okWant := impl.ApplyPatch(rest, list[last:]); ok != okWant || !slices.Equal(out, want) {
			t.Errorf("ApplyPatch(%v, %v) = %v, %v; one after the other %v, %v", keys, list, out, ok, want, okWant)
		}
	})
	if followed < 1000 {
		t.Errorf("%d changes followed others", followed)
	}
}

func TestP77ChangesThatAreNotPossible(t *testing.T) {
	possible, impossible := 0, 0
	patchTries(func(r *rand.Rand, keys []int, list []impl.Change) {
		if len(list) == 0 || len(list) > impl.MaxChanges {
			return
		}
		list = slices.Clone(list)
		at := r.Intn(len(list))
		list[at] = spoilChange(r, list[at])
		if want, ok, _ := wantedApply(keys, list); ok {
			possible++
			if out, ok := impl.ApplyPatch(keys, list); !ok || !slices.Equal(out, want) {
				t.Errorf("ApplyPatch(%v, %v) = %v, %v; want %v", keys, list, out, ok, want)
			}
			return
		}
		impossible++
		checkNoPatch(t, keys, list)
	})
	if possible < 300 || impossible < 1000 {
		t.Errorf("%d possible patches, and %d that are not", possible, impossible)
	}
}

func TestP78MovesKeepAllKeys(t *testing.T) {
	moved, changed := 0, 0
	patchTries(func(r *rand.Rand, keys []int, list []impl.Change) {
		out, ok := impl.ApplyPatch(keys, list)
		if !ok {
			return
		}
		changed++
		if want := len(keys) + kindsIn(list, impl.ChInsert) - kindsIn(list, impl.ChRemove); len(out) != want || !impl.ValidKeys(out) {
			t.Errorf("ApplyPatch(%v, %v) = %v; want %d keys", keys, list, out, want)
		}
		moves := keysOfKind(list, impl.ChMove)
		if len(moves) < len(list) {
			return
		}
		moved++
		if len(both(out, keys)) != len(keys) || len(out) != len(keys) || !slices.Equal(apart(out, moves), apart(keys, moves)) {
			t.Errorf("ApplyPatch(%v, %v) = %v", keys, list, out)
		}
	})
	if moved < 500 || changed < 1500 {
		t.Errorf("%d patches, of which %d were moves alone", changed, moved)
	}
}

func TestP79RowsKeepTheirNumbers(t *testing.T) {
	matched, full := 0, 0
	rowTries(func(r *rand.Rand, list []impl.Row, next int, keys []int) {
		out, after := impl.MatchRows(list, next, keys)
		if want, wantNext := wantedRows(list, next, keys); !slices.Equal(out, want) || after != wantNext {
			t.Fatalf("MatchRows(%v, %d, %v) = %v, %d; want %v, %d", list, next, keys, out, after, want, wantNext)
		}
		if after == -1 {
			full++
			return
		}
		matched++
		free := next
		var ids []int
		for i, x := range out {
			had := slices.ContainsFunc(list, func(y impl.Row) bool { return y.Key == x.Key })
			if x.Key != keys[i] || slices.Contains(ids, x.Id) || had != slices.Contains(list, x) || !had && x.Id != free {
				t.Errorf("MatchRows(%v, %d, %v) = %v", list, next, keys, out)
			}
			if !had {
				free++
			}
			ids = append(ids, x.Id)
		}
		if after != free || len(out) != len(keys) {
			t.Errorf("MatchRows(%v, %d, %v) = %v, %d", list, next, keys, out, after)
		}
	})
	if matched < 1000 || full < 100 {
		t.Errorf("rows were matched %d times, and could not be %d times", matched, full)
	}
}

// isValidRows is another way to tell, by crossing out the numbers that are not free.
func isValidRows(list []impl.Row, next int) bool {
	if next < 0 || next > impl.MaxIds {
		return false
	}
	var keys []int
	left := upTo(0, next-1)
	for _, x := range list {
		keys = append(keys, x.Key)
		left = apart(left, []int{x.Id})
	}
	return isValidKeys(keys) && len(left) == next-len(list)
}

func TestP79OtherRowsAreNotMatched(t *testing.T) {
	valid, invalid := 0, 0
	rowTries(func(r *rand.Rand, list []impl.Row, next int, keys []int) {
		switch kind := r.Intn(4); {
		case kind == 0:
			next = []int{-1, impl.MaxIds + 1, next - 1, r.Intn(impl.MaxIds)}[r.Intn(4)]
		case len(list) == 0:
			list = append(list, impl.Row{Key: r.Intn(impl.MaxKey+3) - 1, Id: r.Intn(next+3) - 1})
		case kind == 1:
			list[r.Intn(len(list))].Key = r.Intn(impl.MaxKey+3) - 1
		default:
			list[r.Intn(len(list))].Id = []int{-1, next, list[0].Id, list[len(list)-1].Id, r.Intn(next)}[r.Intn(5)]
		}
		if !isValidRows(list, next) {
			invalid++
			checkNoMatch(t, list, next, keys)
			return
		}
		valid++
		out, after := impl.MatchRows(list, next, keys)
		if want, wantNext := wantedRows(list, next, keys); !slices.Equal(out, want) || after != wantNext {
			t.Errorf("MatchRows(%v, %d, %v) = %v, %d; want %v, %d", list, next, keys, out, after, want, wantNext)
		}
	})
	if valid < 500 || invalid < 500 {
		t.Errorf("%d valid and %d invalid lists of rows", valid, invalid)
	}
}

func TestP80RowsThatStayAreNotMadeAgain(t *testing.T) {
	again := 0
	rowTries(func(r *rand.Rand, list []impl.Row, next int, keys []int) {
		out, after := impl.MatchRows(list, next, keys)
		if after == -1 {
			return
		}
		again++
		if same, last := impl.MatchRows(out, after, keys); !slices.Equal(same, out) || last != after {
			t.Errorf("MatchRows(%v, %d, %v) = %v, %d", out, after, keys, same, last)
		}
		others := disordered(r, keys)
		same, last := impl.MatchRows(out, after, others)
		for i, x := range same {
			if x.Key != others[i] || !slices.Contains(out, x) {
				t.Errorf("MatchRows(%v, %d, %v) = %v", out, after, others, same)
			}
		}
		if len(same) != len(out) || last != after {
			t.Errorf("MatchRows(%v, %d, %v) = %v, %d", out, after, others, same, last)
		}
	})
	if again < 1000 {
		t.Errorf("%d times", again)
	}
}

func TestP81CostsAreChanges(t *testing.T) {
	check := func(before []int, after []int) {
		cost := impl.CostOf(before, after)
		if list := impl.PatchOf(before, after); cost != len(list) {
			t.Errorf("CostOf(%v, %v) = %d; PatchOf = %v", before, after, cost, list)
		}
		if want := len(apart(before, after)) + len(apart(after, before)) + impl.MovesOf(before, after); cost != want {
			t.Errorf("CostOf(%v, %v) = %d; want %d", before, after, cost, want)
		}
		if back := impl.CostOf(after, before); back != cost {
			t.Errorf("CostOf(%v, %v) = %d; the other way round %d", before, after, cost, back)
		}
	}
	keyTries(func(r *rand.Rand, before []int, after []int) { check(before, after) })
	orderTries(check)
}
