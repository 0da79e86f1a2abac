package tests

import (
	"math"
	"math/rand"
	"slices"
	"testing"

	"loop.example/signalgraph/impl"
)

func TestTriedWritesAreOfAllSorts(t *testing.T) {
	counts := map[string]int{}
	count := func(name string, holds bool) {
		if holds {
			counts[name]++
		}
	}
	writeTries(func(r *rand.Rand, w write) {
		before, after := meantState(w.g, w.list), meantState(w.g, w.after())
		ran := w.eagerRuns()
		count("no cell written", len(w.nodes) == 0)
		count("one cell written", len(w.nodes) == 1)
		count("several cells written", len(w.nodes) > 1)
		count("cells not in order", !slices.IsSorted(w.nodes))
		count("cells written, but all the same", len(w.nodes) > 0 && slices.Equal(w.list, w.after()))
		count("nothing runs, but cells are others", len(ran) == 0 && !slices.Equal(w.list, w.after()))
		count("many nodes run", len(ran) > 4)
		for n, node := range w.g.Nodes {
			runs := slices.Contains(ran, n)
			isSame := before.Values[n] == after.Values[n]
			count("runs and stays the same", runs && isSame)
			count("runs and reads others", runs && !slices.Equal(before.Reads[n], after.Reads[n]))
			count("runs and reads others, but stays the same", runs && isSame && !slices.Equal(before.Reads[n], after.Reads[n]))
			count("effect runs", runs && node.Kind == impl.NdEffect)
			count("may run, but need not", !runs && slices.Contains(wantedMayRun(w.g, w.nodes), n))
		}
	})
	for _, name := range []string{
		"no cell written", "one cell written", "several cells written", "cells not in order", "cells written, but all the same",
		"nothing runs, but cells are others", "many nodes run", "runs and stays the same", "runs and reads others",
		"runs and reads others, but stays the same", "effect runs", "may run, but need not",
	} {
		if counts[name] < 100 {
			t.Errorf("%d times: %s", counts[name], name)
		}
	}
}

// isValidEager is another way to tell: the state is the one that the cells mean.
func isValidEager(g impl.Graph, st impl.Eager) bool {
	if len(st.Values) != len(g.Nodes) || len(st.Reads) != len(g.Nodes) {
		return false
	}
	list := evenCells(g, 1)
	for n, x := range st.Values {
		if x < 0 || x >= impl.Modulus {
			return false
		}
		list[n] *= x
	}
	return sameState(st, meantState(g, list))
}

// changeState changes one thing about a state.
func changeState(r *rand.Rand, st *impl.Eager) {
	n := r.Intn(len(st.Values))
	reads := &st.Reads[n]
	switch r.Intn(7) {
	case 0:
		st.Values[n] = []int{-1, 0, 1, r.Intn(impl.Modulus), impl.Modulus, st.Values[n] + impl.Modulus}[r.Intn(6)]
	case 1:
		*reads = append(*reads, r.Intn(impl.MaxNodes))
	case 2:
		*reads = (*reads)[:len(*reads)/2]
	case 3:
		slices.Reverse(*reads)
	case 4:
		*reads = slices.Compact(*reads)
	case 5:
		st.Values = st.Values[:n]
	case 6:
		st.Reads = append(st.Reads, nil)
	}
}

func TestP24ValidStatesAreThoseThatMeanSomething(t *testing.T) {
	valid, invalid := 0, 0
	writeTries(func(r *rand.Rand, w write) {
		st := meantState(w.g, w.list)
		if !impl.ValidEager(w.g, st) || !sameState(impl.StartEager(w.g, impl.CellsOf(w.g, st)), st) {
			t.Fatalf("not valid: %v of %v", st, w.g)
		}
		if len(w.list) == 0 {
			return
		}
		changeState(r, &st)
		want := isValidEager(w.g, st)
		if impl.ValidEager(w.g, st) != want {
			t.Errorf("ValidEager(%v, %v) = %v", w.g, st, !want)
		}
		if !want {
			invalid++
			checkNoState(t, w.g, st)
			return
		}
		valid++
		if !sameState(impl.StartEager(w.g, impl.CellsOf(w.g, st)), st) {
			t.Errorf("%v of %v is not StartEager of its cells", st, w.g)
		}
	})
	if valid < 200 || invalid < 500 {
		t.Errorf("%d valid and %d invalid states", valid, invalid)
	}
}

func TestP25StatesBeginWithTheMeaning(t *testing.T) {
	writeTries(func(r *rand.Rand, w write) {
		st := impl.StartEager(w.g, w.list)
		if !impl.ValidEager(w.g, st) || !sameState(st, meantState(w.g, w.list)) {
			t.Errorf("StartEager(%v, %v) = %v", w.g, w.list, st)
		}
		if !slices.Equal(st.Values, impl.MeaningOf(w.g, w.list)) || !sameLists(st.Reads, impl.DepsOf(w.g, w.list)) {
			t.Errorf("StartEager(%v, %v) = %v", w.g, w.list, st)
		}
	})
}

func TestP26EagerMachinesKeepTheMeaning(t *testing.T) {
	writeTries(func(r *rand.Rand, w write) {
		st, _ := impl.WriteEager(w.g, impl.StartEager(w.g, w.list), w.nodes, w.values)
		if !sameState(st, impl.StartEager(w.g, w.after())) || !sameState(st, meantState(w.g, w.after())) {
			t.Errorf("WriteEager(%v) = %v; want %v", w, st, meantState(w.g, w.after()))
		}
	})
}

func TestP26TheMeaningIsKeptOverManyWrites(t *testing.T) {
	r := rand.New(rand.NewSource(4))
	for range 200 {
		g := tangledGraph(r)
		list := randomCells(r, g)
		st := impl.StartEager(g, list)
		for range 10 {
			w := randomWrite(r, g)
			w.list = list
			out, ran := impl.WriteEager(g, st, w.nodes, w.values)
			list = w.after()
			if !sameState(out, meantState(g, list)) || !slices.Equal(ran, w.eagerRuns()) {
				t.Fatalf("WriteEager(%v, %v, %v, %v) = %v, %v", g, st, w.nodes, w.values, out, ran)
			}
			st = out
		}
	}
}

func TestP27NodesRunOnceAndOnlyIfTheyMust(t *testing.T) {
	fewer := 0
	writeTries(func(r *rand.Rand, w write) {
		_, ran := impl.WriteEager(w.g, impl.StartEager(w.g, w.list), w.nodes, w.values)
		must, may := impl.MustRun(w.g, w.list, w.after()), impl.MayRun(w.g, w.nodes)
		if !slices.Equal(ran, w.eagerRuns()) || !slices.Equal(ran, must) {
			t.Errorf("%v runs %v; want %v", w, ran, w.eagerRuns())
		}
		for i, n := range ran {
			if !slices.Contains(may, n) || slices.Index(ran, n) != i {
				t.Errorf("%v runs %v, but may run %v", w, ran, may)
			}
		}
		fewer += len(may) - len(ran)
	})
	if fewer < 1000 {
		t.Errorf("%d times a node that may run did not", fewer)
	}
}

func TestP28NothingIsDoneTwice(t *testing.T) {
	writeTries(func(r *rand.Rand, w write) {
		st, _ := impl.WriteEager(w.g, impl.StartEager(w.g, w.list), w.nodes, w.values)
		again, ran := impl.WriteEager(w.g, st, w.nodes, w.values)
		if len(ran) != 0 || !sameState(again, st) {
			t.Errorf("%v again: %v and %v", w, again, ran)
		}
	})
}

func TestP29HasteGetsThereToo(t *testing.T) {
	wasted := 0
	hastyTries(func(r *rand.Rand, w write) {
		st := impl.StartEager(w.g, w.list)
		hasty, runs := impl.WriteHasty(w.g, st, w.nodes[0], w.values[0])
		eager, ran := impl.WriteEager(w.g, st, w.nodes, w.values)
		if len(runs) >= impl.MaxRuns {
			t.Fatalf("%v runs %v", w, runs)
		}
		if !sameState(hasty, eager) || !sameState(hasty, meantState(w.g, w.after())) {
			t.Errorf("WriteHasty(%v) = %v; want %v", w, hasty, eager)
		}
		if len(runs) > len(ran)+2 {
			wasted++
		}
	})
	if wasted < 200 {
		t.Errorf("%d times nodes ran too often", wasted)
	}
}

func TestP30HasteMakesWaste(t *testing.T) {
	more := 0
	hastyTries(func(r *rand.Rand, w write) {
		st := impl.StartEager(w.g, w.list)
		out, runs := impl.WriteHasty(w.g, st, w.nodes[0], w.values[0])
		wantedState, wanted := hastyRuns(w.g, w.list, w.nodes[0], w.values[0])
		if !slices.Equal(runs, wanted) || !sameState(out, wantedState) {
			t.Errorf("WriteHasty(%v) runs %v; want %v", w, runs, wanted)
		}
		_, ran := impl.WriteEager(w.g, st, w.nodes, w.values)
		for _, n := range ran {
			if impl.RunsOf(runs, n) < impl.RunsOf(ran, n) {
				t.Errorf("WriteHasty(%v) runs %v, but WriteEager %v", w, runs, ran)
			}
			if impl.RunsOf(runs, n) > 1 {
				more++
			}
		}
	})
	if more < 500 {
		t.Errorf("%d nodes ran several times", more)
	}
}

func TestP31RunsAreCounted(t *testing.T) {
	r := rand.New(rand.NewSource(5))
	numbers := []int{math.MinInt, -1, 0, 1, 2, 9, 10, math.MaxInt}
	for range 500 {
		counts := make([]int, len(numbers))
		var ran []int
		for range r.Intn(30) {
			k := r.Intn(len(numbers) - 1)
			counts[k]++
			ran = append(ran, numbers[k])
		}
		sum := 0
		for k, n := range numbers {
			runs := impl.RunsOf(ran, n)
			if runs != counts[k] {
				t.Errorf("RunsOf(%v, %d) = %d; want %d", ran, n, runs, counts[k])
			}
			sum += runs
		}
		if sum != len(ran) {
			t.Errorf("%d runs in %v", sum, ran)
		}
	}
	hastyTries(func(r *rand.Rand, w write) {
		_, ran := impl.WriteHasty(w.g, impl.StartEager(w.g, w.list), w.nodes[0], w.values[0])
		sum := 0
		for n := range w.g.Nodes {
			sum += impl.RunsOf(ran, n)
		}
		if sum != len(ran) {
			t.Errorf("%d runs in %v", sum, ran)
		}
	})
}

// wantedMayRun returns the nodes that are no cells and to which a way leads from one of some nodes.
func wantedMayRun(g impl.Graph, nodes []int) []int {
	ways := waysIn(g)
	return nodesThat(g, func(n int) bool {
		return g.Nodes[n].Kind != impl.NdCell && slices.ContainsFunc(nodes, func(from int) bool { return ways[from][n] })
	})
}

func TestP32WhatMayRunIsReached(t *testing.T) {
	writeTries(func(r *rand.Rand, w write) {
		may := impl.MayRun(w.g, w.nodes)
		if want := wantedMayRun(w.g, w.nodes); !slices.Equal(may, want) {
			t.Errorf("MayRun(%v, %v) = %v; want %v", w.g, w.nodes, may, want)
		}
		var reached []int
		for _, n := range w.nodes {
			reached = append(reached, impl.ReachOf(w.g, n)...)
		}
		for n, node := range w.g.Nodes {
			want := node.Kind != impl.NdCell && slices.Contains(reached, n)
			if slices.Contains(may, n) != want {
				t.Errorf("MayRun(%v, %v) = %v", w.g, w.nodes, may)
			}
		}
	})
}

func TestP33WhatChangedMustRun(t *testing.T) {
	writeTries(func(r *rand.Rand, w write) {
		must := impl.MustRun(w.g, w.list, w.after())
		if !slices.Equal(must, w.eagerRuns()) {
			t.Errorf("MustRun(%v) = %v; want %v", w, must, w.eagerRuns())
		}
		for _, n := range impl.ChangedBy(w.g, w.list, w.after()) {
			if w.g.Nodes[n].Kind != impl.NdCell && !slices.Contains(must, n) {
				t.Errorf("MustRun(%v) = %v, but %d changed", w, must, n)
			}
		}
		for _, list := range [][]int{w.list, w.after()} {
			if nothing := impl.MustRun(w.g, list, list); len(nothing) != 0 {
				t.Errorf("MustRun(%v) between the same cells %v = %v", w.g, list, nothing)
			}
		}
	})
}

func TestP34CellsOfStatesAreCells(t *testing.T) {
	writeTries(func(r *rand.Rand, w write) {
		for _, list := range [][]int{w.list, w.after()} {
			st := meantState(w.g, list)
			got := impl.CellsOf(w.g, st)
			if !slices.Equal(got, list) || !impl.ValidCells(w.g, got) || !slices.Equal(impl.MeaningOf(w.g, got), st.Values) {
				t.Errorf("CellsOf(%v, %v) = %v; want %v", w.g, st, got, list)
			}
		}
	})
}
