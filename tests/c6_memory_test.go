package tests

import (
	"math/rand"
	"slices"
	"testing"

	"loop.example/signalgraph/impl"
)

// roomyOwners returns owners of new memory, with owners, cleanups and values to spare.
func roomyOwners(list []impl.Owner) []impl.Owner {
	var room []impl.Owner
	for _, x := range list {
		x.Cleanups, x.Context = roomyList(x.Cleanups), roomyList(x.Context)
		room = append(room, x)
	}
	room = append(room, live(0, 78), live(0, 79))
	return room[:len(list)]
}

// bareOwners returns owners with what they have to spare, as a copy.
func bareOwners(list []impl.Owner) []impl.Owner {
	var out []impl.Owner
	for _, x := range list[:cap(list)] {
		x.Cleanups, x.Context = slices.Clone(x.Cleanups[:cap(x.Cleanups)]), slices.Clone(x.Context[:cap(x.Context)])
		out = append(out, x)
	}
	return out
}

// spoilOwners writes over all memory of owners.
func spoilOwners(list []impl.Owner) {
	for _, x := range list[:cap(list)] {
		spoil(x.Cleanups)
		spoil(x.Context)
	}
	spoilAll(live(-9), list)
}

// changedOwners returns what the functions make of owners at one of them.
func changedOwners(list []impl.Owner, o int) [][]impl.Owner {
	opened, _ := impl.OpenUnder(list, o)
	added, _ := impl.AddCleanup(list, o, 7)
	set, _ := impl.SetContext(list, o, 1, 8)
	rerun, _ := impl.RerunOwner(list, o)
	disposed, _ := impl.DisposeOwner(list, o)
	return [][]impl.Owner{opened, added, set, rerun, disposed}
}

// spoilOwnerResults calls all functions of owners and writes over what they return.
func spoilOwnerResults(list []impl.Owner, o int) {
	for _, out := range changedOwners(list, o) {
		spoilOwners(out)
	}
	_, met := impl.RerunOwner(list, o)
	_, last := impl.DisposeOwner(list, o)
	spoilAll(-9, met, last, impl.KidsOf(list, o), impl.AboveOf(list, o), impl.LabelsOf(list, o), impl.LiveOf(list))
	impl.LookUp(list, o, 1)
	impl.ValidOwners(list)
}

func checkOwnersLeftAlone(t *testing.T, list []impl.Owner) {
	t.Helper()
	before := bareOwners(list)
	for o := range 15 {
		spoilOwnerResults(list, o-1)
	}
	if after := bareOwners(list); !sameOwners(before, after) {
		t.Fatalf("changed: %v is %v", before, after)
	}
}

func TestOwnersAreLeftAlone(t *testing.T) {
	for _, list := range validOwners() {
		checkOwnersLeftAlone(t, roomyOwners(list))
	}
	ownerTries(func(r *rand.Rand, list []impl.Owner) {
		checkOwnersLeftAlone(t, roomyOwners(list))
		context := roomyList(list[0].Context)
		spoilOwners(impl.NewOwners(context))
		if !slices.Equal(context, list[0].Context) || context[:4][3] != 71 {
			t.Fatalf("changed: %v is %v", list[0].Context, context)
		}
	})
}

func TestInvalidOwnersAreLeftAlone(t *testing.T) {
	for _, list := range invalidOwners() {
		checkOwnersLeftAlone(t, roomyOwners(list))
	}
	for _, context := range [][]int{nil, {1}, {51, 1, 1}, {1, 1, -2}, {1, 1, 1, 1}} {
		list := roomyList(context)
		spoilOwners(impl.NewOwners(list))
		if !slices.Equal(list, context) {
			t.Errorf("changed: %v is %v", context, list)
		}
	}
}

// listsOfOwners returns all lists of owners, and one of labels.
func listsOfOwners(list []impl.Owner, labels []int) [][]int {
	lists := [][]int{labels}
	for _, x := range list {
		lists = append(lists, x.Cleanups, x.Context)
	}
	return lists
}

func checkOwnersApart(t *testing.T, list []impl.Owner, o int) {
	t.Helper()
	for i := range changedOwners(list, o) {
		checkListsApart(t, func() [][]int { return listsOfOwners(changedOwners(list, o)[i], nil) })
	}
	checkListsApart(t, func() [][]int { return listsOfOwners(impl.RerunOwner(list, o)) })
	checkListsApart(t, func() [][]int { return listsOfOwners(impl.DisposeOwner(list, o)) })
}

func TestListsOfOwnersShareNothing(t *testing.T) {
	for _, list := range validOwners() {
		for o := range list {
			checkOwnersApart(t, list, o)
		}
	}
	tried := 0
	openTries(func(r *rand.Rand, list []impl.Owner, o int) {
		if tried++; tried%20 == 0 {
			checkOwnersApart(t, list, o)
		}
	})
}

func TestOwnersThatShareMemory(t *testing.T) {
	// Lists that share memory in the argument do not in the result.
	room := []int{1, 2, 3, 4, 5, 6}
	list := owners(live(-1, room[:2]...), live(0, room[:2]...), live(0, room[2:4]...))
	for o := range list {
		list[o].Context = room[:3]
	}
	for o := range list {
		checkOwnersApart(t, list, o)
	}
	added, _ := impl.AddCleanup(list, 0, 9)
	if want := owners(keyed(live(-1, 1, 2, 9), 1, 2, 3), list[1], list[2]); !sameOwners(added, want) {
		t.Errorf("AddCleanup = %v; want %v", added, want)
	}
	set, _ := impl.SetContext(list, 1, 0, 9)
	if want := owners(list[0], keyed(live(0, 1, 2), 9, 2, 3), list[2]); !sameOwners(set, want) {
		t.Errorf("SetContext = %v; want %v", set, want)
	}
	if !slices.Equal(room, []int{1, 2, 3, 4, 5, 6}) {
		t.Errorf("changed: %v", room)
	}
}
