package tests

import (
	"math/rand"
	"slices"
	"testing"

	"loop.example/signalgraph/impl"
)

func TestTriedReadsAreOfAllSorts(t *testing.T) {
	counts := map[string]int{}
	count := func(name string, holds bool) {
		if holds {
			counts[name]++
		}
	}
	lazyReadTries(func(g impl.Graph, st impl.Lazy, n int) {
		out, ran := wantedRead(g, st, []int{n})
		count("clean node read", st.Colours[n] == impl.ClClean)
		count("nothing is stale", !hasStale(st, nodesThat(g, func(int) bool { return true })))
		count("many nodes run", len(ran) > 4)
		count("nodes run out of order", !slices.IsSorted(ran))
		count("something else is dirty then", !slices.Equal(st.Colours, out.Colours) && slices.Contains(out.Colours, impl.ClDirty))
		for k, before := range st.Colours {
			after := out.Colours[k]
			runs := slices.Contains(ran, k)
			isSame := st.Values[k] == out.Values[k]
			count("checked node need not run", before == impl.ClCheck && after == impl.ClClean && !runs)
			count("checked node runs", before == impl.ClCheck && runs)
			count("checked node runs, but stays the same", before == impl.ClCheck && runs && isSame)
			count("checked node is dirty, but not read", before == impl.ClCheck && after == impl.ClDirty)
			count("dirty node runs, but stays the same", before == impl.ClDirty && runs && isSame)
			count("dirty node without reads runs", before == impl.ClDirty && runs && len(st.Reads[k]) == 0)
			count("node runs and reads others", runs && !slices.Equal(st.Reads[k], out.Reads[k]))
			count("needed node stays stale", after != impl.ClClean && waysIn(g)[k][n])
		}
	})
	for _, name := range []string{
		"clean node read", "nothing is stale", "many nodes run", "nodes run out of order", "something else is dirty then",
		"checked node need not run", "checked node runs", "checked node runs, but stays the same", "checked node is dirty, but not read",
		"dirty node runs, but stays the same", "dirty node without reads runs", "node runs and reads others", "needed node stays stale",
	} {
		if counts[name] < 100 {
			t.Errorf("%d times: %s", counts[name], name)
		}
	}
}

// isValidLazy is another way to tell, node by node, by the parts of formulas.
func isValidLazy(g impl.Graph, st impl.Lazy) bool {
	count := len(g.Nodes)
	if len(st.Values) != count || len(st.Reads) != count || len(st.Colours) != count {
		return false
	}
	for _, x := range st.Values {
		if x < 0 || x >= impl.Modulus {
			return false
		}
	}
	for n, node := range g.Nodes {
		value, reads := st.Values[n], []int(nil)
		if node.Kind != impl.NdCell {
			value, reads = meaning(node.Formula.Parts, len(node.Formula.Parts)-1, st.Values)
		}
		isRight := st.Values[n] == value && slices.Equal(st.Reads[n], firsts(reads))
		isKnown := len(firsts(st.Reads[n])) == len(st.Reads[n])
		for _, ahead := range st.Reads[n] {
			isKnown = isKnown && slices.Contains(readsAtAll(g, n), ahead)
		}
		mayBe := map[int]bool{
			impl.ClClean: isRight && !hasStale(st, firsts(reads)),
			impl.ClCheck: isRight && node.Kind != impl.NdCell,
			impl.ClDirty: isKnown && node.Kind != impl.NdCell,
		}
		if !mayBe[st.Colours[n]] {
			return false
		}
	}
	return true
}

// changeLazy changes one thing about a state.
func changeLazy(r *rand.Rand, st *impl.Lazy) {
	n := r.Intn(len(st.Values))
	if r.Intn(3) == 0 {
		st.Colours[n] = r.Intn(5) - 1
		return
	}
	if r.Intn(10) == 0 {
		st.Colours = append(st.Colours, impl.ClDirty)[:n+r.Intn(2)+1]
		return
	}
	kept := state(st.Values, st.Reads...)
	changeState(r, &kept)
	st.Values, st.Reads = kept.Values, kept.Reads
}

func TestP35LazyStatesMeanSomething(t *testing.T) {
	valid, invalid, settled := 0, 0, 0
	lazyTries(func(r *rand.Rand, g impl.Graph, st impl.Lazy) {
		if !impl.ValidLazy(g, st) {
			t.Fatalf("not valid: %v of %v", st, g)
		}
		list := cellsIn(g, st.Values)
		if len(impl.StaleOf(g, st)) == 0 && len(g.Nodes) > 0 {
			settled++
			if !slices.Equal(st.Values, impl.MeaningOf(g, list)) || !sameLazy(st, cleanState(g, list)) {
				t.Errorf("%v of %v is not what it means", st, g)
			}
		}
		if len(g.Nodes) == 0 {
			return
		}
		changeLazy(r, &st)
		want := isValidLazy(g, st)
		if impl.ValidLazy(g, st) != want {
			t.Errorf("ValidLazy(%v, %v) = %v", g, st, !want)
		}
		if want {
			valid++
		} else {
			invalid++
			checkNoLazy(t, g, st)
		}
	})
	if valid < 200 || invalid < 500 || settled < 200 {
		t.Errorf("%d valid and %d invalid states, %d with nothing stale", valid, invalid, settled)
	}
}

func TestP36LazyStatesBeginWithNothingDone(t *testing.T) {
	graphTries(func(r *rand.Rand, g impl.Graph, list []int) {
		st := impl.StartLazy(g, list)
		if !sameLazy(st, startedState(g, list)) || !impl.ValidLazy(g, st) {
			t.Fatalf("StartLazy(%v, %v) = %v", g, list, st)
		}
		for n, node := range g.Nodes {
			if (st.Colours[n] == impl.ClClean) != (node.Kind == impl.NdCell) || len(st.Reads[n]) != 0 {
				t.Errorf("StartLazy(%v, %v) = %v", g, list, st)
			}
		}
	})
}

func TestP37WritingRunsNothingAndSpoilsWhatItMust(t *testing.T) {
	toRun, toCheck := 0, 0
	lazyWriteTries(func(g impl.Graph, st impl.Lazy, n int, value int) {
		out, ok := impl.WriteLazy(g, st, n, value)
		if !ok || !impl.ValidLazy(g, out) || !isValidLazy(g, out) || out.Values[n] != value {
			t.Fatalf("WriteLazy(%v, %v, %d, %d) = %v, %v", g, st, n, value, out, ok)
		}
		if want := wantedWrite(st, n, value); !sameLazy(out, want) {
			t.Errorf("WriteLazy(%v, %v, %d, %d) = %v; want %v", g, st, n, value, out, want)
		}
		means := impl.MeaningOf(g, cellsIn(g, out.Values))
		for k, colour := range out.Colours {
			if colour == impl.ClClean && out.Values[k] != means[k] {
				t.Errorf("WriteLazy(%v, %v, %d, %d) = %v; the node %d is %d", g, st, n, value, out, k, means[k])
			}
			if colour == impl.ClDirty && st.Colours[k] != colour {
				toRun++
			}
			if colour == impl.ClCheck && st.Colours[k] != colour {
				toCheck++
			}
		}
	})
	if toRun < 500 || toCheck < 500 {
		t.Errorf("%d nodes were dirty then, %d to be checked", toRun, toCheck)
	}
}

// checkReadsAsBefore checks that each node has the same value when it is read in one of two states.
func checkReadsAsBefore(t *testing.T, g impl.Graph, before impl.Lazy, after impl.Lazy) {
	t.Helper()
	values, _ := meant(g, cellsIn(g, before.Values))
	for n, want := range values {
		_, a, _ := impl.ReadLazy(g, before, n)
		_, b, _ := impl.ReadLazy(g, after, n)
		if a != want || b != want {
			t.Errorf("the node %d of %v is %d in %v, and %d in %v; want %d", n, g, a, before, b, after, want)
		}
	}
}

func TestP38WhatIsWrittenBackNeedNotBeFoundOut(t *testing.T) {
	lazyWriteTries(func(g impl.Graph, st impl.Lazy, n int, value int) {
		away, _ := impl.WriteLazy(g, st, n, value)
		back, ok := impl.WriteLazy(g, away, n, st.Values[n])
		if !ok || !slices.Equal(back.Values, st.Values) || !sameLists(back.Reads, st.Reads) {
			t.Errorf("WriteLazy(%v, %v, %d) back = %v, %v", g, st, n, back, ok)
		}
		checkReadsAsBefore(t, g, st, back)
	})
}

func TestP39WhatIsReadIsWhatIsMeant(t *testing.T) {
	lazyReadTries(func(g impl.Graph, st impl.Lazy, n int) {
		out, value, ran := impl.ReadLazy(g, st, n)
		want, wanted := wantedRead(g, st, []int{n})
		if !sameLazy(out, want) || !slices.Equal(ran, wanted) {
			t.Fatalf("ReadLazy(%v, %v, %d) = %v, %v; want %v, %v", g, st, n, out, ran, want, wanted)
		}
		if means := impl.MeaningOf(g, cellsIn(g, st.Values)); value != means[n] || out.Values[n] != means[n] {
			t.Errorf("ReadLazy(%v, %v, %d) = %d; want %d", g, st, n, value, means[n])
		}
		if !impl.ValidLazy(g, out) || !isValidLazy(g, out) {
			t.Errorf("ReadLazy(%v, %v, %d) = %v is not valid", g, st, n, out)
		}
	})
}

// takeStep does one thing with a lazy machine, and returns the state then, and the one that is wanted.
func takeStep(r *rand.Rand, g impl.Graph, st impl.Lazy) (impl.Lazy, impl.Lazy) {
	n := r.Intn(len(g.Nodes))
	if r.Intn(2) == 0 {
		out, _, _ := impl.ReadLazy(g, st, n)
		want, _ := wantedRead(g, st, []int{n})
		return out, want
	}
	if g.Nodes[n].Kind != impl.NdCell {
		out, _ := impl.ForgetNode(g, st, n)
		return out, wantedForget(st, n)
	}
	value := []int{0, 1, 2, r.Intn(impl.Modulus)}[r.Intn(4)]
	out, _ := impl.WriteLazy(g, st, n, value)
	return out, wantedWrite(st, n, value)
}

func TestP39TheMeaningIsReadAfterManySteps(t *testing.T) {
	r := rand.New(rand.NewSource(7))
	for range 300 {
		g := tangledGraph(r)
		st := startedState(g, randomCells(r, g))
		for range 30 {
			out, want := takeStep(r, g, st)
			if !sameLazy(out, want) || !isValidLazy(g, out) {
				t.Fatalf("a step from %v of %v leads to %v; want %v", st, g, out, want)
			}
			st = out
		}
		checkReadsAsBefore(t, g, st, st)
	}
}

func TestP40OnlyWhatIsNeededRunsAndOnlyOnce(t *testing.T) {
	lazyReadTries(func(g impl.Graph, st impl.Lazy, n int) {
		_, _, ran := impl.ReadLazy(g, st, n)
		needed := impl.NeedOf(g, n)
		for i, k := range ran {
			if slices.Index(ran, k) != i || st.Colours[k] == impl.ClClean || !slices.Contains(needed, k) || !waysIn(g)[k][n] {
				t.Errorf("ReadLazy(%v, %v, %d) runs %v", g, st, n, ran)
			}
		}
		if st.Colours[n] == impl.ClClean && len(ran) != 0 {
			t.Errorf("ReadLazy(%v, %v, %d) runs %v, but the node is clean", g, st, n, ran)
		}
	})
}

func TestP41NothingRunsWithoutAReason(t *testing.T) {
	idle := 0
	lazyReadTries(func(g impl.Graph, st impl.Lazy, n int) {
		out, _, ran := impl.ReadLazy(g, st, n)
		if !isValidLazy(g, out) {
			t.Fatalf("ReadLazy(%v, %v, %d) = %v", g, st, n, out)
		}
		for _, k := range ran {
			if st.Colours[k] != impl.ClDirty && !isChanged(st, out, st.Reads[k]) {
				t.Errorf("ReadLazy(%v, %v, %d) runs %v; no reason for %d", g, st, n, ran, k)
			}
		}
		for k, colour := range st.Colours {
			if colour == impl.ClCheck && out.Colours[k] == impl.ClClean && !slices.Contains(ran, k) {
				idle++
			}
		}
	})
	if idle < 500 {
		t.Errorf("%d times a node need not run after all", idle)
	}
}

func TestP42WhatIsReadIsKnown(t *testing.T) {
	lazyReadTries(func(g impl.Graph, st impl.Lazy, n int) {
		out, value, _ := impl.ReadLazy(g, st, n)
		again, same, ran := impl.ReadLazy(g, out, n)
		if len(ran) != 0 || same != value || !sameLazy(again, out) || !isValidLazy(g, out) || out.Colours[n] != impl.ClClean {
			t.Fatalf("ReadLazy(%v, %v, %d) again = %v, %d, %v", g, out, n, again, same, ran)
		}
	})
}

// randomNodes returns at most MaxNodes nodes of a graph, some of them several times.
func randomNodes(r *rand.Rand, g impl.Graph) []int {
	var nodes []int
	for range r.Intn(impl.MaxNodes + 1) {
		if len(g.Nodes) > 0 {
			nodes = append(nodes, r.Intn(len(g.Nodes)))
		}
	}
	return nodes
}

func TestP43ReadsComeOneAfterTheOther(t *testing.T) {
	lazyTries(func(r *rand.Rand, g impl.Graph, st impl.Lazy) {
		nodes := randomNodes(r, g)
		out, ran := impl.ReadAll(g, st, nodes)
		if want, wanted := wantedRead(g, st, nodes); !sameLazy(out, want) || !slices.Equal(ran, wanted) {
			t.Errorf("ReadAll(%v, %v, %v) = %v, %v; want %v, %v", g, st, nodes, out, ran, want, wanted)
		}
		one := st
		var all []int
		for _, n := range nodes {
			next, _, some := impl.ReadLazy(g, one, n)
			one = next
			all = append(all, some...)
		}
		if !sameLazy(out, one) || !slices.Equal(ran, all) {
			t.Errorf("ReadAll(%v, %v, %v) = %v, %v; one after the other %v, %v", g, st, nodes, out, ran, one, all)
		}
	})
}

func TestP44StaleNodesAreNotClean(t *testing.T) {
	lazyTries(func(r *rand.Rand, g impl.Graph, st impl.Lazy) {
		stale := impl.StaleOf(g, st)
		if want := nodesThat(g, func(n int) bool { return st.Colours[n] != impl.ClClean }); !slices.Equal(stale, want) {
			t.Errorf("StaleOf(%v, %v) = %v; want %v", g, st, stale, want)
		}
		for _, n := range stale {
			if g.Nodes[n].Kind == impl.NdCell {
				t.Errorf("StaleOf(%v, %v) = %v", g, st, stale)
			}
		}
	})
}

func TestP45ForgottenNodesAreFoundOutAgain(t *testing.T) {
	lazyReadTries(func(g impl.Graph, st impl.Lazy, n int) {
		out, ok := impl.ForgetNode(g, st, n)
		if g.Nodes[n].Kind == impl.NdCell {
			if ok || !isNoLazy(out) {
				t.Errorf("ForgetNode(%v, %v, %d) = %v, %v", g, st, n, out, ok)
			}
			return
		}
		if want := wantedForget(st, n); !ok || !sameLazy(out, want) || !impl.ValidLazy(g, out) {
			t.Errorf("ForgetNode(%v, %v, %d) = %v, %v; want %v", g, st, n, out, ok, want)
		}
		checkReadsAsBefore(t, g, st, out)
		if _, _, ran := impl.ReadLazy(g, out, n); len(ran) == 0 || ran[len(ran)-1] != n {
			t.Errorf("ReadLazy(%v, %v, %d) runs %v, but the node was forgotten", g, out, n, ran)
		}
	})
}

func TestP46CellsAreThoseThatWereWritten(t *testing.T) {
	lazyTries(func(r *rand.Rand, g impl.Graph, st impl.Lazy) {
		list := impl.LazyCells(g, st)
		if !slices.Equal(list, cellsIn(g, st.Values)) || !impl.ValidCells(g, list) {
			t.Errorf("LazyCells(%v, %v) = %v", g, st, list)
		}
		settled, _ := impl.SettleLazy(g, st)
		if same := impl.LazyCells(g, settled); !slices.Equal(same, list) {
			t.Errorf("LazyCells(%v, %v) = %v; want %v", g, settled, same, list)
		}
	})
	lazyWriteTries(func(g impl.Graph, st impl.Lazy, n int, value int) {
		want := cellsIn(g, st.Values)
		want[n] = value
		out, _ := impl.WriteLazy(g, st, n, value)
		if list := impl.LazyCells(g, out); !slices.Equal(list, want) {
			t.Errorf("LazyCells(%v, %v) = %v; want %v", g, out, list, want)
		}
	})
}

func TestP47SettledStatesAreTheEagerOnes(t *testing.T) {
	lazyTries(func(r *rand.Rand, g impl.Graph, st impl.Lazy) {
		out, ran := impl.SettleLazy(g, st)
		all := nodesThat(g, func(int) bool { return true })
		want, wanted := wantedRead(g, st, all)
		if !sameLazy(out, want) || !slices.Equal(ran, wanted) || !sameLazy(out, cleanState(g, cellsIn(g, st.Values))) {
			t.Errorf("SettleLazy(%v, %v) = %v, %v; want %v, %v", g, st, out, ran, want, wanted)
		}
		if stale := impl.StaleOf(g, out); len(stale) != 0 {
			t.Errorf("StaleOf(%v, %v) = %v", g, out, stale)
		}
		if eager := impl.StartEager(g, impl.LazyCells(g, st)); !sameState(state(out.Values, out.Reads...), eager) {
			t.Errorf("SettleLazy(%v, %v) = %v; StartEager is %v", g, st, out, eager)
		}
		if read, some := impl.ReadAll(g, st, all); !sameLazy(read, out) || !slices.Equal(some, ran) {
			t.Errorf("ReadAll(%v, %v, %v) = %v, %v; SettleLazy is %v, %v", g, st, all, read, some, out, ran)
		}
	})
}
