package tests

import (
	"math/rand"
	"slices"

	"loop.example/signalgraph/impl"
)

// live returns an owner that is open, without values in its context.
func live(parent int, cleanups ...int) impl.Owner {
	return impl.Owner{Parent: parent, Open: true, Cleanups: cleanups, Context: []int{-1, -1, -1}}
}

// gone returns an owner that is not open.
func gone(parent int) impl.Owner {
	return impl.Owner{Parent: parent, Context: []int{-1, -1, -1}}
}

// keyed returns an owner with a context.
func keyed(x impl.Owner, context ...int) impl.Owner {
	x.Context = context
	return x
}

// owners returns a list of owners.
func owners(list ...impl.Owner) []impl.Owner {
	return list
}

// family returns owners of three generations, of which two are closed, one of these below an open one.
func family() []impl.Owner {
	return owners(
		keyed(live(-1, 10, 13), 7, -1, 0),
		keyed(live(0, 11, 12), -1, 4, -1),
		gone(0),
		live(1, 20),
		keyed(live(0), 8, -1, -1),
		gone(4),
		keyed(live(4, 30, 30, 31), -1, 50, -1),
		live(1, 22, 21),
	)
}

// heap returns a first owner with all others right below it, each with a label of its own.
func heap() []impl.Owner {
	list := owners(live(-1, 0))
	for len(list) < impl.MaxOwners {
		list = append(list, live(0, len(list)))
	}
	return list
}

// tower returns owners of which each one is below the one ahead of it, with a label of its own.
func tower() []impl.Owner {
	var list []impl.Owner
	for len(list) < impl.MaxOwners {
		list = append(list, live(len(list)-1, len(list)))
	}
	return list
}

func copiedOwner(x impl.Owner) impl.Owner {
	x.Cleanups, x.Context = slices.Clone(x.Cleanups), slices.Clone(x.Context)
	return x
}

// copiedOwners returns owners of new memory.
func copiedOwners(list []impl.Owner) []impl.Owner {
	var out []impl.Owner
	for _, x := range list {
		out = append(out, copiedOwner(x))
	}
	return out
}

func sameOwner(a impl.Owner, b impl.Owner) bool {
	return a.Parent == b.Parent && a.Open == b.Open && slices.Equal(a.Cleanups, b.Cleanups) && slices.Equal(a.Context, b.Context)
}

func sameOwners(a []impl.Owner, b []impl.Owner) bool {
	return slices.EqualFunc(a, b, sameOwner)
}

// wayTo returns the owners from the first one down to one.
func wayTo(list []impl.Owner, o int) []int {
	var way []int
	for o >= 0 {
		way = append(way, o)
		o = list[o].Parent
	}
	slices.Reverse(way)
	return way
}

// openBelow returns an open owner and all open ones below it, in the order of the ways to them.
func openBelow(list []impl.Owner, o int) []int {
	var found []int
	for n, x := range list {
		if x.Open && slices.Contains(wayTo(list, n), o) {
			found = append(found, n)
		}
	}
	slices.SortFunc(found, func(a int, b int) int { return slices.Compare(wayTo(list, a), wayTo(list, b)) })
	return found
}

// wantedLabels returns the labels that are met when an open owner is cleared. In the order of ways they are all met the other way round.
func wantedLabels(list []impl.Owner, o int) []int {
	var labels []int
	for _, n := range openBelow(list, o) {
		labels = append(labels, list[n].Cleanups...)
	}
	slices.Reverse(labels)
	return labels
}

// wantedClear returns owners after an open one was cleared.
func wantedClear(list []impl.Owner, o int) []impl.Owner {
	out := slices.Clone(list)
	for _, n := range openBelow(list, o) {
		out[n].Cleanups = nil
		out[n].Open = n == o
	}
	return out
}

// wantedClose returns owners after an open one was cleared, and closed.
func wantedClose(list []impl.Owner, o int) []impl.Owner {
	out := wantedClear(list, o)
	out[o].Open = false
	return out
}

// wantedValue returns the value that an owner sees for a key.
func wantedValue(list []impl.Owner, o int, key int) (int, bool) {
	value := -1
	for _, n := range wayTo(list, o) {
		if x := list[n].Context[key]; x >= 0 {
			value = x
		}
	}
	return max(value, 0), value >= 0
}

// ownersThat returns the owners for which something holds, ascending.
func ownersThat(list []impl.Owner, holds func(n int) bool) []int {
	var found []int
	for n := range list {
		if holds(n) {
			found = append(found, n)
		}
	}
	return found
}

// randomLabels returns a number of labels.
func randomLabels(r *rand.Rand, count int) []int {
	var labels []int
	for range count {
		labels = append(labels, []int{0, impl.MaxLabel, r.Intn(impl.MaxLabel + 1), r.Intn(impl.MaxLabel + 1)}[r.Intn(4)])
	}
	return labels
}

// randomContext returns a context, with few values or with many.
func randomContext(r *rand.Rand) []int {
	context := randomLabels(r, impl.MaxKeys)
	one := 1 + r.Intn(4)
	for key := range context {
		if r.Intn(one+1) > 0 {
			context[key] = -1
		}
	}
	return context
}

// randomOwner returns an owner that can be behind others.
func randomOwner(r *rand.Rand, ahead []impl.Owner, parent int, isOpen bool) impl.Owner {
	x := impl.Owner{Parent: parent, Context: randomContext(r)}
	if isOpen && (parent < 0 || ahead[parent].Open) {
		x.Open = true
		x.Cleanups = randomLabels(r, []int{0, 1, 2, 3, 4, impl.MaxCleanups}[r.Intn(6)])
	}
	return x
}

// randomOwners returns valid owners in a tree that is high, or wide, or neither.
func randomOwners(r *rand.Rand) []impl.Owner {
	closed := []int{0, 0, 2, 5}[r.Intn(4)]
	shape := r.Intn(4)
	list := owners(randomOwner(r, nil, -1, r.Intn(30) > 0))
	count := []int{1 + r.Intn(impl.MaxOwners), impl.MaxOwners - r.Intn(4)}[r.Intn(2)]
	for len(list) < count {
		last := len(list) - 1
		parent := []int{r.Intn(last + 1), max(0, last-r.Intn(2)), min(last, r.Intn(2)), min(last, r.Intn(4))}[shape]
		list = append(list, randomOwner(r, list, parent, r.Intn(10) >= closed))
	}
	return list
}

// ownerTries calls a function with valid owners, the same ones each time.
func ownerTries(check func(r *rand.Rand, list []impl.Owner)) {
	r := rand.New(rand.NewSource(9))
	for range 2000 {
		check(r, randomOwners(r))
	}
}

// openTries calls a function with valid owners and each one of them that is open.
func openTries(check func(r *rand.Rand, list []impl.Owner, o int)) {
	ownerTries(func(r *rand.Rand, list []impl.Owner) {
		for o, x := range list {
			if x.Open {
				check(r, list, o)
			}
		}
	})
}
