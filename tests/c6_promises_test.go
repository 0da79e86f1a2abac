package tests

import (
	"math/rand"
	"slices"
	"testing"

	"loop.example/signalgraph/impl"
)

func TestTriedOwnersAreOfAllSorts(t *testing.T) {
	counts := map[string]int{}
	count := func(name string, holds bool) {
		if holds {
			counts[name]++
		}
	}
	ownerTries(func(r *rand.Rand, list []impl.Owner) {
		count("one owner", len(list) == 1)
		count("the most owners", len(list) == impl.MaxOwners)
		count("first owner is closed", !list[0].Open)
		count("all are open", len(openBelow(list, 0)) == len(list))
		for o, x := range list {
			below := openBelow(list, o)
			kids := ownersThat(list, func(n int) bool { return list[n].Parent == o })
			open := ownersThat(list, func(n int) bool { return list[n].Parent == o && list[n].Open })
			count("no cleanups", x.Open && len(x.Cleanups) == 0)
			count("the most cleanups", len(x.Cleanups) == impl.MaxCleanups)
			count("the same label twice", len(firsts(x.Cleanups)) < len(x.Cleanups))
			count("many kids", len(open) > 3)
			count("far below", len(wayTo(list, o)) > 5)
			count("closed kids beside open ones", len(open) > 0 && len(open) < len(kids))
			count("all kids are closed", x.Open && len(open) == 0 && len(kids) > 0)
			count("closed owner has kids", !x.Open && len(kids) > 0)
			count("kids' kids between kids", len(below) > 3 && !slices.IsSorted(below))
			count("no values", slices.Max(x.Context) == -1)
			count("all values", slices.Min(x.Context) >= 0)
			value, ok := wantedValue(list, o, 0)
			count("value from above", ok && x.Context[0] == -1)
			count("value hides one above", x.Context[0] >= 0 && o > 0 && slices.ContainsFunc(wayTo(list, x.Parent), func(n int) bool { return list[n].Context[0] >= 0 }))
			count("value from far above", ok && len(wayTo(list, o)) > 3 && x.Context[0] == -1 && list[x.Parent].Context[0] == -1)
			count("no value on the way", !ok && o > 0)
			count("value 0", ok && value == 0)
		}
	})
	for _, name := range []string{
		"one owner", "the most owners", "first owner is closed", "all are open", "no cleanups", "the most cleanups", "the same label twice", "many kids", "far below",
		"closed kids beside open ones", "all kids are closed", "closed owner has kids", "kids' kids between kids",
		"no values", "all values", "value from above", "value hides one above", "value from far above", "no value on the way", "value 0",
	} {
		if counts[name] < 30 {
			t.Errorf("%d times: %s", counts[name], name)
		}
	}
}

// isValidOwners is another way to tell, by lists of what is allowed.
func isValidOwners(list []impl.Owner) bool {
	var labels, values, ahead, live []int
	for label := range impl.MaxLabel + 1 {
		labels = append(labels, label)
	}
	values = append(values, labels...)
	values = append(values, -1)
	isLabel := func(n int) bool { return slices.Contains(labels, n) }
	isValue := func(n int) bool { return slices.Contains(values, n) }
	for n, x := range list {
		parents := ahead
		if x.Open {
			parents = live
		}
		if n == 0 {
			parents = []int{-1}
		}
		goodLabels := len(x.Cleanups) == 0 || x.Open && len(x.Cleanups) <= impl.MaxCleanups && len(slices.DeleteFunc(slices.Clone(x.Cleanups), isLabel)) == 0
		goodValues := len(x.Context) == impl.MaxKeys && len(slices.DeleteFunc(slices.Clone(x.Context), isValue)) == 0
		if !slices.Contains(parents, x.Parent) || !goodLabels || !goodValues {
			return false
		}
		ahead = append(ahead, n)
		if x.Open {
			live = append(live, n)
		}
	}
	return len(ahead) > 0 && len(ahead) <= impl.MaxOwners
}

// changeOwner changes one thing about an owner.
func changeOwner(r *rand.Rand, x *impl.Owner) {
	switch r.Intn(5) {
	case 0:
		x.Parent = r.Intn(impl.MaxOwners+3) - 2
	case 1:
		x.Open = !x.Open
	case 2:
		x.Cleanups = append(x.Cleanups, []int{-1, 0, impl.MaxLabel, impl.MaxLabel + 1}[r.Intn(4)])
	case 3:
		if len(x.Context) > 0 {
			x.Context[r.Intn(len(x.Context))] = []int{-2, -1, 0, impl.MaxLabel, impl.MaxLabel + 1}[r.Intn(5)]
		}
	default:
		x.Context = slices.Repeat([]int{-1}, impl.MaxKeys-1+r.Intn(3))
	}
}

func TestP57OwnersCanBeDisposed(t *testing.T) {
	openTries(func(r *rand.Rand, list []impl.Owner, o int) {
		if !impl.ValidOwners(list) {
			t.Fatalf("not valid: %v", list)
		}
		if o == 0 {
			checkNotDisposed(t, list, 0)
			return
		}
		if out, _ := impl.DisposeOwner(list, o); !impl.ValidOwners(out) || !isValidOwners(out) {
			t.Errorf("DisposeOwner(%v, %d) = %v", list, o, out)
		}
	})
}

func TestP57OtherOwnersCanNotBeDisposed(t *testing.T) {
	valid, invalid := 0, 0
	ownerTries(func(r *rand.Rand, list []impl.Owner) {
		list = copiedOwners(list)
		if r.Intn(20) > 0 {
			changeOwner(r, &list[r.Intn(len(list))])
		} else {
			list = append(list, live(0))
		}
		want := isValidOwners(list)
		if impl.ValidOwners(list) != want {
			t.Errorf("ValidOwners(%v) = %v", list, !want)
		}
		if want {
			valid++
			return
		}
		invalid++
		checkNoOwners(t, list)
	})
	if valid < 300 || invalid < 1000 {
		t.Errorf("%d valid and %d invalid lists", valid, invalid)
	}
}

func TestP58TheFirstOwnerIsOpen(t *testing.T) {
	ownerTries(func(r *rand.Rand, _ []impl.Owner) {
		context := randomContext(r)
		list := impl.NewOwners(context)
		if !impl.ValidOwners(list) || !sameOwners(list, owners(keyed(live(-1), context...))) || !slices.Equal(impl.LiveOf(list), []int{0}) {
			t.Fatalf("NewOwners(%v) = %v", context, list)
		}
		for key, want := range context {
			if value, ok := impl.LookUp(list, 0, key); ok != (want >= 0) || value != max(want, 0) {
				t.Errorf("LookUp(%v, 0, %d) = %d, %v", list, key, value, ok)
			}
		}
		context[r.Intn(len(context))] = []int{-2, impl.MaxLabel + 1}[r.Intn(2)]
		if list := impl.NewOwners(context); len(list) != 0 {
			t.Errorf("NewOwners(%v) = %v", context, list)
		}
	})
}

func TestP59NewOwnersAreKids(t *testing.T) {
	opened, full := 0, 0
	openTries(func(r *rand.Rand, list []impl.Owner, o int) {
		out, ok := impl.OpenUnder(list, o)
		if len(list) == impl.MaxOwners {
			full++
			if ok || len(out) != 0 {
				t.Errorf("OpenUnder(%v, %d) = %v, %v", list, o, out, ok)
			}
			return
		}
		opened++
		last := len(list)
		if !ok || !impl.ValidOwners(out) || !sameOwners(out, append(copiedOwners(list), live(o))) {
			t.Fatalf("OpenUnder(%v, %d) = %v, %v", list, o, out, ok)
		}
		if kids := impl.KidsOf(out, o); !slices.Equal(kids, append(impl.KidsOf(list, o), last)) {
			t.Errorf("KidsOf(%v, %d) = %v", out, o, kids)
		}
		for key := range impl.MaxKeys {
			value, ok := impl.LookUp(out, last, key)
			if above, okAbove := impl.LookUp(list, o, key); value != above || ok != okAbove {
				t.Errorf("LookUp(%v, %d, %d) = %d, %v; LookUp of its parent is %d, %v", out, last, key, value, ok, above, okAbove)
			}
		}
	})
	if opened < 1000 || full < 1000 {
		t.Errorf("%d owners were opened, and %d could not be", opened, full)
	}
}

func TestP60TheLastCleanupOfAnOwnerIsMetFirstOfItsOwn(t *testing.T) {
	added, full := 0, 0
	openTries(func(r *rand.Rand, list []impl.Owner, o int) {
		label := r.Intn(impl.MaxLabel + 1)
		out, ok := impl.AddCleanup(list, o, label)
		if len(list[o].Cleanups) == impl.MaxCleanups {
			full++
			if ok || len(out) != 0 {
				t.Errorf("AddCleanup(%v, %d, %d) = %v, %v", list, o, label, out, ok)
			}
			return
		}
		added++
		want := copiedOwners(list)
		want[o].Cleanups = append(want[o].Cleanups, label)
		if !ok || !impl.ValidOwners(out) || !sameOwners(out, want) {
			t.Fatalf("AddCleanup(%v, %d, %d) = %v, %v", list, o, label, out, ok)
		}
		before := impl.LabelsOf(list, o)
		ofKids := len(before) - len(list[o].Cleanups)
		if after := impl.LabelsOf(out, o); !slices.Equal(after, slices.Insert(before, ofKids, label)) {
			t.Errorf("LabelsOf(%v, %d) = %v; without the cleanup %d %v", out, o, after, label, before)
		}
	})
	if added < 1000 || full < 1000 {
		t.Errorf("%d labels were added, and %d could not be", added, full)
	}
}

func TestP61ContextsAreSeenBelow(t *testing.T) {
	seen, hidden := 0, 0
	openTries(func(r *rand.Rand, list []impl.Owner, o int) {
		key, value := r.Intn(impl.MaxKeys), randomLabels(r, 1)[0]
		out, ok := impl.SetContext(list, o, key, value)
		want := copiedOwners(list)
		want[o].Context[key] = value
		if !ok || !impl.ValidOwners(out) || !sameOwners(out, want) {
			t.Fatalf("SetContext(%v, %d, %d, %d) = %v, %v", list, o, key, value, out, ok)
		}
		if x, ok := impl.LookUp(out, o, key); x != value || !ok {
			t.Errorf("LookUp(%v, %d, %d) = %d, %v", out, o, key, x, ok)
		}
		for kid, x := range out {
			if x.Parent != o {
				continue
			}
			wanted := value
			if own := x.Context[key]; own >= 0 {
				hidden++
				wanted = own
			}
			seen++
			if x, ok := impl.LookUp(out, kid, key); x != wanted || !ok {
				t.Errorf("LookUp(%v, %d, %d) = %d, %v; want %d", out, kid, key, x, ok, wanted)
			}
		}
	})
	if seen < 1000 || hidden < 300 {
		t.Errorf("%d kids saw a value, and %d of them one of their own", seen, hidden)
	}
}

func TestP62TheNearestValueWins(t *testing.T) {
	ownerTries(func(r *rand.Rand, list []impl.Owner) {
		for o := range list {
			for key := range impl.MaxKeys {
				value, ok := impl.LookUp(list, o, key)
				above := impl.AboveOf(list, o)
				first := slices.IndexFunc(above, func(n int) bool { return list[n].Context[key] >= 0 })
				if ok != (first >= 0) || ok && value != list[above[first]].Context[key] {
					t.Errorf("LookUp(%v, %d, %d) = %d, %v", list, o, key, value, ok)
				}
				if want, okWant := wantedValue(list, o, key); value != want || ok != okWant {
					t.Errorf("LookUp(%v, %d, %d) = %d, %v; want %d, %v", list, o, key, value, ok, want, okWant)
				}
			}
			for _, key := range []int{-1, impl.MaxKeys} {
				if value, ok := impl.LookUp(list, o, key); value != 0 || ok {
					t.Errorf("LookUp(%v, %d, %d) = %d, %v", list, o, key, value, ok)
				}
			}
		}
	})
}

func TestP63KidsAreOpenAndHaveTheOwnerAsParent(t *testing.T) {
	ownerTries(func(r *rand.Rand, list []impl.Owner) {
		for o, x := range list {
			kids := impl.KidsOf(list, o)
			want := ownersThat(list, func(n int) bool { return list[n].Open && list[n].Parent == o })
			if !slices.Equal(kids, want) || len(kids) > 0 && !x.Open {
				t.Errorf("KidsOf(%v, %d) = %v; want %v", list, o, kids, want)
			}
		}
		for _, o := range []int{-1, len(list)} {
			checkNoOwner(t, list, o)
		}
	})
}

func TestP64AllWaysGoUpToTheFirstOwner(t *testing.T) {
	ownerTries(func(r *rand.Rand, list []impl.Owner) {
		for o := range list {
			above := impl.AboveOf(list, o)
			if len(above) == 0 || above[0] != o || above[len(above)-1] != 0 {
				t.Fatalf("AboveOf(%v, %d) = %v", list, o, above)
			}
			for i := 1; i < len(above); i++ {
				if above[i] != list[above[i-1]].Parent {
					t.Errorf("AboveOf(%v, %d) = %v", list, o, above)
				}
			}
		}
	})
}

func TestP65ClearedOwnersHaveNothingLeft(t *testing.T) {
	openTries(func(r *rand.Rand, list []impl.Owner, o int) {
		out, labels := impl.RerunOwner(list, o)
		if want := wantedClear(list, o); !impl.ValidOwners(out) || !sameOwners(out, want) {
			t.Fatalf("RerunOwner(%v, %d) = %v; want %v", list, o, out, want)
		}
		if want := wantedLabels(list, o); !slices.Equal(labels, want) {
			t.Errorf("RerunOwner(%v, %d) meets %v; want %v", list, o, labels, want)
		}
		x := out[o]
		if kids := impl.KidsOf(out, o); len(kids) != 0 || !x.Open || len(x.Cleanups) != 0 || !slices.Equal(x.Context, list[o].Context) {
			t.Errorf("RerunOwner(%v, %d) = %v", list, o, out)
		}
		again, labels := impl.RerunOwner(out, o)
		if !sameOwners(again, out) || len(labels) != 0 || len(impl.LabelsOf(out, o)) != 0 {
			t.Errorf("RerunOwner(%v, %d) = %v, %v", out, o, again, labels)
		}
	})
}

func TestP66EachCleanupIsMetOnce(t *testing.T) {
	tried := 0
	ownerTries(func(r *rand.Rand, list []impl.Owner) {
		if !list[0].Open {
			checkNoChange(t, list, 0)
			return
		}
		tried++
		var all []int
		for _, x := range list {
			all = append(all, x.Cleanups...)
		}
		_, labels := impl.RerunOwner(list, 0)
		slices.Sort(all)
		slices.Sort(labels)
		if !slices.Equal(labels, all) {
			t.Errorf("RerunOwner(%v, 0) meets %v; the owners have %v", list, labels, all)
		}
	})
	if tried < 1000 {
		t.Errorf("%d first owners were cleared", tried)
	}
}

// allMet disposes owners one by one, and returns all labels that were met.
func allMet(r *rand.Rand, list []impl.Owner) []int {
	var all []int
	for range len(list) {
		var labels []int
		open := impl.LiveOf(list)
		o := open[r.Intn(len(open))]
		if o > 0 {
			list, labels = impl.DisposeOwner(list, o)
		} else if r.Intn(2) == 0 {
			list, labels = impl.RerunOwner(list, 0)
		}
		all = append(all, labels...)
	}
	_, labels := impl.RerunOwner(list, 0)
	return append(all, labels...)
}

func TestP66CleanupsAreMetOnceInTurn(t *testing.T) {
	ownerTries(func(r *rand.Rand, list []impl.Owner) {
		if !list[0].Open {
			return
		}
		met, all := allMet(r, list), impl.LabelsOf(list, 0)
		slices.Sort(met)
		slices.Sort(all)
		if !slices.Equal(met, all) {
			t.Errorf("the owners %v meet %v in turn, and %v at once", list, met, all)
		}
	})
}

func TestP67DisposedOwnersAreGone(t *testing.T) {
	openTries(func(r *rand.Rand, list []impl.Owner, o int) {
		if o == 0 {
			return
		}
		out, labels := impl.DisposeOwner(list, o)
		if want := wantedClose(list, o); !sameOwners(out, want) {
			t.Fatalf("DisposeOwner(%v, %d) = %v; want %v", list, o, out, want)
		}
		for n := range list {
			if slices.Contains(wayTo(list, n), o) {
				checkNoChange(t, out, n)
			} else if !sameOwner(out[n], list[n]) {
				t.Errorf("DisposeOwner(%v, %d) = %v", list, o, out)
			}
		}
		if _, cleared := impl.RerunOwner(list, o); !slices.Equal(labels, cleared) {
			t.Errorf("DisposeOwner(%v, %d) meets %v; RerunOwner %v", list, o, labels, cleared)
		}
	})
}

func TestP68KidsAreClearedFromTheLastOneToTheFirstOne(t *testing.T) {
	openTries(func(r *rand.Rand, list []impl.Owner, o int) {
		var want []int
		for _, kid := range slices.Backward(impl.KidsOf(list, o)) {
			want = append(want, impl.LabelsOf(list, kid)...)
		}
		for _, label := range slices.Backward(list[o].Cleanups) {
			want = append(want, label)
		}
		if labels := impl.LabelsOf(list, o); !slices.Equal(labels, want) || !slices.Equal(labels, wantedLabels(list, o)) {
			t.Errorf("LabelsOf(%v, %d) = %v; want %v", list, o, labels, want)
		}
	})
}

func TestP69LiveOwnersHaveLiveOwnersAboveThem(t *testing.T) {
	ownerTries(func(r *rand.Rand, list []impl.Owner) {
		out := impl.LiveOf(list)
		for _, o := range out {
			for _, above := range impl.AboveOf(list, o) {
				if !slices.Contains(out, above) {
					t.Errorf("LiveOf(%v) = %v; %d is above %d", list, out, above, o)
				}
			}
		}
		if want := ownersThat(list, func(n int) bool { return list[n].Open }); !slices.Equal(out, want) {
			t.Errorf("LiveOf(%v) = %v; want %v", list, out, want)
		}
	})
}
