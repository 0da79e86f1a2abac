package tests

import (
	"math/bits"
	"math/rand"
	"slices"

	"loop.example/signalgraph/impl"
)

// remove returns the change that removes a key.
func remove(key int) impl.Change {
	return impl.Change{Kind: impl.ChRemove, Key: key, At: -1}
}

// insert returns the change that inserts a key behind another one.
func insert(key int, at int) impl.Change {
	return impl.Change{Kind: impl.ChInsert, Key: key, At: at}
}

// move returns the change that moves a key behind another one.
func move(key int, at int) impl.Change {
	return impl.Change{Kind: impl.ChMove, Key: key, At: at}
}

// patch returns a list of changes.
func patch(list ...impl.Change) []impl.Change {
	return list
}

// rows returns rows of keys and numbers in turn.
func rows(n ...int) []impl.Row {
	var list []impl.Row
	for i := 0; i < len(n); i += 2 {
		list = append(list, impl.Row{Key: n[i], Id: n[i+1]})
	}
	return list
}

// upTo returns the keys from one to another one, in order.
func upTo(first int, last int) []int {
	var keys []int
	for key := first; key <= last; key++ {
		keys = append(keys, key)
	}
	return keys
}

func reversed(list []int) []int {
	out := slices.Clone(list)
	slices.Reverse(out)
	return out
}

// both returns the numbers of a list that are in another one, too.
func both(list []int, other []int) []int {
	return slices.DeleteFunc(slices.Clone(list), func(n int) bool { return !slices.Contains(other, n) })
}

// apart returns the numbers of a list that are not in another one.
func apart(list []int, other []int) []int {
	return slices.DeleteFunc(slices.Clone(list), func(n int) bool { return slices.Contains(other, n) })
}

// isWithin reports whether all numbers of a list are in another one, in this order.
func isWithin(list []int, other []int) bool {
	for _, n := range other {
		if len(list) > 0 && list[0] == n {
			list = list[1:]
		}
	}
	return len(list) == 0
}

// wantedStays returns the keys that stay, found by trying all lists of keys.
func wantedStays(before []int, after []int) []int {
	shared := both(after, before)
	var best []int
	// A key that comes first is the highest bit, so of lists of one length the right one is met first.
	for mask := uint(1)<<len(shared) - 1; mask > 0; mask-- {
		if bits.OnesCount(mask) <= len(best) {
			continue
		}
		var list []int
		for i, key := range shared {
			if mask>>(len(shared)-1-i)&1 == 1 {
				list = append(list, key)
			}
		}
		if isWithin(list, before) {
			best = list
		}
	}
	return best
}

// wantedPatch returns the changes from keys to others.
func wantedPatch(before []int, after []int) []impl.Change {
	var list []impl.Change
	for _, key := range apart(reversed(before), after) {
		list = append(list, remove(key))
	}
	fixed := wantedStays(before, after)
	for i, key := range after {
		at := append([]int{-1}, after...)[i]
		switch {
		case slices.Contains(fixed, key):
		case slices.Contains(before, key):
			list = append(list, move(key, at))
		default:
			list = append(list, insert(key, at))
		}
	}
	return list
}

// wantedChange returns keys after one change, and whether it is possible.
func wantedChange(keys []int, c impl.Change) ([]int, bool) {
	isThere := slices.Contains(keys, c.Key)
	rest := apart(keys, []int{c.Key})
	if c.Kind == impl.ChRemove {
		return rest, isThere && c.At == -1
	}
	isNew := !isThere && c.Key >= 0 && c.Key <= impl.MaxKey
	if c.Kind != impl.ChInsert && c.Kind != impl.ChMove || c.Kind == impl.ChInsert && !isNew || c.Kind == impl.ChMove && !isThere {
		return nil, false
	}
	var out []int
	for _, key := range append([]int{-1}, rest...) {
		out = append(out, key)
		if key == c.At {
			out = append(out, c.Key)
		}
	}
	return out[1:], len(out) == len(rest)+2
}

// wantedApply returns keys after changes, whether they are possible, and the most keys on the way.
func wantedApply(keys []int, list []impl.Change) ([]int, bool, int) {
	most := len(keys)
	for _, c := range list {
		next, ok := wantedChange(keys, c)
		if !ok {
			return nil, false, most
		}
		keys = next
		most = max(most, len(keys))
	}
	if len(keys) > impl.MaxKeyed {
		return nil, false, most
	}
	return keys, true, most
}

// wantedRows returns the rows for keys, and the next free number.
func wantedRows(list []impl.Row, next int, keys []int) ([]impl.Row, int) {
	ids := map[int]int{}
	for _, x := range list {
		ids[x.Key] = x.Id
	}
	out := make([]impl.Row, len(keys))
	for i, key := range keys {
		if _, ok := ids[key]; !ok {
			ids[key] = next
			next++
		}
		out[i] = impl.Row{Key: key, Id: ids[key]}
	}
	if next > impl.MaxIds {
		return nil, -1
	}
	return out, next
}

// randomKeys returns valid keys, the least and the greatest one often among them.
func randomKeys(r *rand.Rand) []int {
	keys := r.Perm(impl.MaxKey + 1)[:[]int{r.Intn(impl.MaxKeyed + 1), impl.MaxKeyed, r.Intn(4)}[r.Intn(3)]]
	if len(keys) > 1 && r.Intn(2) == 0 {
		keys = append(apart(keys, []int{0, impl.MaxKey}), 0, impl.MaxKey)
		keys = keys[max(0, len(keys)-impl.MaxKeyed):]
	}
	r.Shuffle(len(keys), func(i int, j int) { keys[i], keys[j] = keys[j], keys[i] })
	return keys
}

// disordered returns keys in another order: turned round, in no order, with some keys at other places, or with a part of them at the other end.
func disordered(r *rand.Rand, keys []int) []int {
	out := slices.Clone(keys)
	if len(out) < 2 {
		return out
	}
	switch r.Intn(5) {
	case 0:
		slices.Reverse(out)
	case 1:
		r.Shuffle(len(out), func(i int, j int) { out[i], out[j] = out[j], out[i] })
	case 2, 3:
		for range 1 + r.Intn(2) {
			i, j := r.Intn(len(out)), r.Intn(len(out))
			out[i], out[j] = out[j], out[i]
		}
	default:
		i := r.Intn(len(out))
		out = slices.Concat(out[i:], out[:i])
	}
	return out
}

// otherKeys returns valid keys of which some, all or none are among others.
func otherKeys(r *rand.Rand, keys []int) []int {
	out := disordered(r, keys)
	for range []int{0, 0, 1, 3, 10}[r.Intn(5)] {
		if len(out) > 0 {
			i := r.Intn(len(out))
			out = slices.Delete(out, i, i+1)
		}
	}
	fresh := apart(r.Perm(impl.MaxKey+1), keys)
	for range min(impl.MaxKeyed-len(out), []int{0, 0, 1, 3, 10}[r.Intn(5)]) {
		out = slices.Insert(out, r.Intn(len(out)+1), fresh[0])
		fresh = fresh[1:]
	}
	return out
}

// keyTries calls a function with two lists of keys, the same ones each time.
func keyTries(check func(r *rand.Rand, before []int, after []int)) {
	r := rand.New(rand.NewSource(10))
	for range 3000 {
		before := randomKeys(r)
		check(r, before, otherKeys(r, before))
	}
}

// orders returns all orders of the numbers from 0 to n-1.
func orders(n int) [][]int {
	if n == 0 {
		return [][]int{{}}
	}
	var list [][]int
	for _, shorter := range orders(n - 1) {
		for i := range n {
			list = append(list, slices.Insert(slices.Clone(shorter), i, n-1))
		}
	}
	return list
}

// orderTries calls a function with some keys in order, and with the same ones in each other order.
func orderTries(check func(before []int, after []int)) {
	before := []int{20, 17, 14, 11, 8, 5, 2}
	for n := range len(before) + 1 {
		for _, order := range orders(n) {
			var after []int
			for _, i := range order {
				after = append(after, before[i])
			}
			check(before[:n], after)
		}
	}
}

// smallLists returns all lists of different keys up to a greatest one.
func smallLists(most int) [][]int {
	lists := [][]int{{}}
	for i := 0; i < len(lists); i++ {
		for _, key := range apart(upTo(0, most), lists[i]) {
			lists = append(lists, append(slices.Clone(lists[i]), key))
		}
	}
	return lists
}

// randomChange returns a change that is possible.
func randomChange(r *rand.Rand, keys []int) impl.Change {
	fresh := apart(r.Perm(impl.MaxKey+1), keys)
	if len(keys) == 0 || len(fresh) > 0 && r.Intn(3) == 0 {
		return insert(fresh[0], append([]int{-1}, keys...)[r.Intn(len(keys)+1)])
	}
	key := keys[r.Intn(len(keys))]
	if r.Intn(3) == 0 {
		return remove(key)
	}
	rest := append([]int{-1}, apart(keys, []int{key})...)
	return move(key, rest[r.Intn(len(rest))])
}

// spoilChange returns a change with one thing about it changed, which may be possible still.
func spoilChange(r *rand.Rand, c impl.Change) impl.Change {
	switch r.Intn(4) {
	case 0:
		c.Kind = r.Intn(5) - 1
	case 1:
		c.Key = r.Intn(impl.MaxKey+4) - 2
	case 2:
		c.At = r.Intn(impl.MaxKey+4) - 2
	default:
		c.At = c.Key
	}
	return c
}

// randomPatch returns changes of keys, mostly possible ones.
func randomPatch(r *rand.Rand, keys []int) []impl.Change {
	var list []impl.Change
	length := []int{r.Intn(6), r.Intn(6), r.Intn(impl.MaxChanges + 1), impl.MaxChanges + r.Intn(2)}[r.Intn(4)]
	for range length {
		c := randomChange(r, keys)
		if r.Intn(2*length) == 0 {
			c = spoilChange(r, c)
		}
		list = append(list, c)
		if next, ok := wantedChange(keys, c); ok {
			keys = next
		}
	}
	return list
}

// onlyMoves returns possible changes of keys that are all moves.
func onlyMoves(r *rand.Rand, keys []int) []impl.Change {
	var list []impl.Change
	for range r.Intn(6) {
		if c := randomChange(r, keys); c.Kind == impl.ChMove {
			list = append(list, c)
		}
	}
	return list
}

// patchTries calls a function with keys and changes, the same ones each time.
func patchTries(check func(r *rand.Rand, keys []int, list []impl.Change)) {
	r := rand.New(rand.NewSource(11))
	for range 6000 {
		keys := randomKeys(r)
		if r.Intn(6) == 0 {
			check(r, keys, onlyMoves(r, keys))
		} else {
			check(r, keys, randomPatch(r, keys))
		}
	}
}

// randomRows returns valid rows for keys, and a number that is free, often one from which there are just enough or too few for others.
func randomRows(r *rand.Rand, keys []int, others []int) ([]impl.Row, int) {
	enough := impl.MaxIds - len(apart(others, keys))
	next := []int{len(keys), len(keys) + r.Intn(5), enough, min(enough+1, impl.MaxIds), impl.MaxIds - r.Intn(12)}[r.Intn(5)]
	ids := r.Perm(next)
	if r.Intn(2) == 0 {
		ids = reversed(upTo(next-len(keys), next-1))
	}
	var list []impl.Row
	for i, key := range keys {
		list = append(list, impl.Row{Key: key, Id: ids[i]})
	}
	return list, next
}

// rowTries calls a function with rows, a free number and keys, the same ones each time.
func rowTries(check func(r *rand.Rand, list []impl.Row, next int, keys []int)) {
	keyTries(func(r *rand.Rand, before []int, after []int) {
		list, next := randomRows(r, before, after)
		check(r, list, next, after)
	})
}
