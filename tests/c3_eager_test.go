package tests

import (
	"math"
	"slices"
	"testing"

	"loop.example/signalgraph/impl"
)

// capped returns a cell, a node that is never more than 10, and an effect that shows it.
func capped() impl.Graph {
	return graph(cell(), derived(read(0), num(10), op(impl.PaMin, 0, 1)), effect(read(1)))
}

// layers returns a cell and four layers of two nodes and one of one node, each of which is the sum of the nodes ahead of its layer, or of the last six of these.
func layers() impl.Graph {
	nodes := cells(1)
	for len(nodes) < impl.MaxNodes {
		ahead := len(nodes) - (len(nodes)-1)%2
		first := max(0, ahead-6)
		parts := []impl.Part{read(first)}
		for n := first + 1; n < ahead; n++ {
			parts = append(parts, read(n), op(impl.PaAdd, len(parts)-1, len(parts)))
		}
		nodes = append(nodes, derived(parts...))
	}
	return graph(nodes...)
}

// doubtful returns a cell, two nodes that read it, and one that reads the first of them, and, if that is 0, the other one.
func doubtful() impl.Graph {
	return graph(
		cell(),
		derived(read(0), num(5), op(impl.PaLess, 0, 1)),
		derived(read(0), num(1), op(impl.PaAdd, 0, 1)),
		effect(read(1), num(70), read(2), when(0, 1, 2)),
	)
}

// switchedState returns the state of switched for the cells 0 and 5.
func switchedState() impl.Eager {
	return state([]int{0, 5, 8, 7}, nil, nil, []int{1}, []int{0})
}

func TestStatesOfCells(t *testing.T) {
	for _, c := range []struct {
		g    impl.Graph
		list []int
		want impl.Eager
	}{
		{impl.Graph{}, nil, impl.Eager{}},
		{impl.Graph{}, []int{}, state([]int{})},
		{graph(cell()), []int{999}, state([]int{999}, nil)},
		{graph(effect(num(7))), []int{0}, state([]int{7}, nil)},
		{diamond(), []int{5, 0, 0, 0, 0}, state([]int{5, 6, 10, 16, 16}, nil, []int{0}, []int{0}, []int{1, 2}, []int{3})},
		{switched(), []int{0, 5, 0, 0}, switchedState()},
		{switched(), []int{2, 5, 0, 0}, state([]int{2, 5, 8, 8}, nil, nil, []int{1}, []int{0, 2})},
		{loose(), []int{3, 0, 0, 6, 0, 9, 0, 0, 0}, state([]int{3, 4, 0, 6, 12, 9, 130, 136, 136}, nil, nil, []int{0}, nil, []int{3}, nil, nil, []int{3, 6}, []int{7})},
	} {
		if st := impl.StartEager(c.g, c.list); !sameState(st, c.want) {
			t.Errorf("StartEager(%v, %v) = %v; want %v", c.g, c.list, st, c.want)
		}
		if !impl.ValidEager(c.g, c.want) {
			t.Errorf("not valid: %v of %v", c.want, c.g)
		}
		if list := impl.CellsOf(c.g, c.want); !slices.Equal(list, c.list) {
			t.Errorf("CellsOf(%v, %v) = %v; want %v", c.g, c.want, list, c.list)
		}
	}
	for _, g := range validGraphs() {
		for _, value := range []int{0, 1, impl.Modulus - 1} {
			list := evenCells(g, value)
			st := impl.StartEager(g, list)
			if !sameState(st, meantState(g, list)) || !impl.ValidEager(g, st) || !slices.Equal(impl.CellsOf(g, st), list) {
				t.Errorf("StartEager(%v, %v) = %v", g, list, st)
			}
		}
	}
}

// checkNoState checks that all functions of a graph and a state return what they return for arguments that are not valid.
func checkNoState(t *testing.T, g impl.Graph, st impl.Eager) {
	t.Helper()
	if impl.ValidEager(g, st) {
		t.Errorf("ValidEager(%v, %v)", g, st)
	}
	if list := impl.CellsOf(g, st); len(list) != 0 {
		t.Errorf("CellsOf(%v, %v) = %v", g, st, list)
	}
	if out, ran := impl.WriteEager(g, st, nil, nil); !isNothing(out, ran) {
		t.Errorf("WriteEager(%v, %v) = %v, %v", g, st, out, ran)
	}
	for n := range len(g.Nodes) + 1 {
		if out, ran := impl.WriteEager(g, st, []int{n}, []int{1}); !isNothing(out, ran) {
			t.Errorf("WriteEager(%v, %v, %d) = %v, %v", g, st, n, out, ran)
		}
		if out, ran := impl.WriteHasty(g, st, n, 1); !isNothing(out, ran) {
			t.Errorf("WriteHasty(%v, %v, %d) = %v, %v", g, st, n, out, ran)
		}
	}
}

func TestInvalidStates(t *testing.T) {
	for _, st := range []impl.Eager{
		{},
		{Values: []int{0, 5, 8, 7}},
		{Reads: [][]int{nil, nil, {1}, {0}}},
		// Too few and too many values and reads.
		state([]int{0, 5, 8}, nil, nil, []int{1}, []int{0}),
		state([]int{0, 5, 8, 7, 0}, nil, nil, []int{1}, []int{0}),
		state([]int{0, 5, 8, 7}, nil, nil, []int{1}),
		state([]int{0, 5, 8, 7}, nil, nil, []int{1}, []int{0}, nil),
		state([]int{0, 5, 8, 7, 0}, nil, nil, []int{1}, []int{0}, nil),
		// Values that are not in range, also where they would be right by their rest.
		state([]int{0, 1000, 3, 7}, nil, nil, []int{1}, []int{0}),
		state([]int{0, -1, 2, 7}, nil, nil, []int{1}, []int{0}),
		state([]int{0, 5, 1008, 7}, nil, nil, []int{1}, []int{0}),
		state([]int{0, 5, -992, 7}, nil, nil, []int{1}, []int{0}),
		state([]int{0, math.MaxInt, 2, 7}, nil, nil, []int{1}, []int{0}),
		state([]int{math.MinInt, 5, 8, 8}, nil, nil, []int{1}, []int{0, 2}),
		// Values that are not those of the formulas: of a derived node, of an effect, and of both.
		state([]int{0, 5, 9, 7}, nil, nil, []int{1}, []int{0}),
		state([]int{0, 5, 8, 8}, nil, nil, []int{1}, []int{0}),
		state([]int{0, 5, 8, 0}, nil, nil, []int{1}, []int{0}),
		state([]int{0, 5, 0, 0}, nil, nil, []int{1}, []int{0}),
		state([]int{2, 5, 9, 8}, nil, nil, []int{1}, []int{0, 2}),
		// Reads that are not those of the formulas.
		state([]int{0, 5, 8, 7}, nil, nil, nil, []int{0}),
		state([]int{0, 5, 8, 7}, nil, nil, []int{1}, nil),
		state([]int{0, 5, 8, 7}, nil, nil, []int{0}, []int{0}),
		state([]int{0, 5, 8, 7}, nil, nil, []int{1}, []int{0, 2}),
		state([]int{0, 5, 8, 7}, nil, nil, []int{1, 1}, []int{0}),
		state([]int{0, 5, 8, 7}, nil, nil, []int{1}, []int{math.MaxInt}),
		state([]int{2, 5, 8, 8}, nil, nil, []int{1}, []int{0}),
		state([]int{2, 5, 8, 8}, nil, nil, []int{1}, []int{2, 0}),
		state([]int{2, 5, 8, 8}, nil, nil, []int{1}, []int{0, 2, 0}),
		// Cells that read something.
		state([]int{0, 5, 8, 7}, []int{0}, nil, []int{1}, []int{0}),
		state([]int{0, 5, 8, 7}, nil, []int{0}, []int{1}, []int{0}),
	} {
		checkNoState(t, switched(), st)
	}
	checkNoState(t, impl.Graph{}, state([]int{0}, nil))
	checkNoState(t, impl.Graph{}, state(nil, nil))
	checkNoState(t, impl.Graph{}, state([]int{0}))
	checkNoState(t, graph(cell()), switchedState())
	// The order of reads is that in which they are read, also where it does not ascend.
	backward := graph(cell(), cell(), effect(read(1), read(0), op(impl.PaSub, 0, 1)))
	checkNoState(t, backward, state([]int{1, 3, 2}, nil, nil, []int{0, 1}))
	if !impl.ValidEager(backward, state([]int{1, 3, 2}, nil, nil, []int{1, 0})) {
		t.Errorf("not valid: a state of %v", backward)
	}
}

func TestEagerOfInvalidGraphs(t *testing.T) {
	for _, g := range invalidGraphs() {
		list := evenCells(g, 0)
		if st := impl.StartEager(g, list); !isNothing(st, nil) {
			t.Errorf("StartEager(%v) = %v", g, st)
		}
		checkNoState(t, g, state(list, make([][]int, len(list))...))
		checkNoState(t, g, impl.Eager{})
		if nodes := impl.MustRun(g, list, list); len(nodes) != 0 {
			t.Errorf("MustRun(%v) = %v", g, nodes)
		}
		for n := range g.Nodes {
			if nodes := impl.MayRun(g, []int{n}); len(nodes) != 0 {
				t.Errorf("MayRun(%v, %d) = %v", g, n, nodes)
			}
		}
	}
	// Only what is behind the cell is wrong, and it would run.
	bad := graph(cell(), effect(read(0)), effect(read(1)))
	checkNoState(t, bad, state([]int{3, 3, 3}, nil, []int{0}, []int{1}))
	if nodes := impl.MustRun(bad, []int{0, 0, 0}, []int{1, 0, 0}); len(nodes) != 0 {
		t.Errorf("MustRun(%v) = %v", bad, nodes)
	}
}

func TestEagerOfInvalidCells(t *testing.T) {
	g := switched()
	good := []int{0, 5, 0, 0}
	for _, list := range [][]int{
		nil, {0}, {0, 5, 0}, {0, 5, 0, 0, 0}, {1000, 5, 0, 0}, {0, 1000, 0, 0}, {-1, 5, 0, 0}, {math.MaxInt, 5, 0, 0}, {0, 5, 8, 0}, {0, 5, 0, 7}, {0, 5, 8, 7},
	} {
		if st := impl.StartEager(g, list); !isNothing(st, nil) {
			t.Errorf("StartEager(%v) = %v", list, st)
		}
		if len(impl.MustRun(g, list, good)) != 0 || len(impl.MustRun(g, good, list)) != 0 || len(impl.MustRun(g, list, list)) != 0 {
			t.Errorf("MustRun with %v", list)
		}
	}
	if st := impl.StartEager(impl.Graph{}, []int{0}); !isNothing(st, nil) {
		t.Errorf("StartEager of no nodes = %v", st)
	}
}

func TestWriteEager(t *testing.T) {
	most := graph(append(cells(impl.MaxNodes-1), effect(read(8), read(0), op(impl.PaSub, 0, 1)))...)
	// Values that stay the same cut what would run behind them, also where another way leads on.
	cut := graph(cell(), derived(read(0), num(10), op(impl.PaMin, 0, 1)), derived(read(1)), derived(read(0), read(1), op(impl.PaAdd, 0, 1)), effect(read(2)), effect(read(3)))
	for _, c := range []struct {
		g             impl.Graph
		list          []int
		nodes, values []int
		ran           []int
		want          []int
	}{
		{impl.Graph{}, nil, nil, nil, nil, nil},
		{graph(cell()), []int{3}, []int{0}, []int{4}, nil, []int{4}},
		{graph(effect(num(3))), []int{0}, nil, nil, nil, []int{3}},
		{diamond(), []int{5, 0, 0, 0, 0}, nil, nil, nil, []int{5, 6, 10, 16, 16}},
		{diamond(), []int{5, 0, 0, 0, 0}, []int{0}, []int{5}, nil, []int{5, 6, 10, 16, 16}},
		{diamond(), []int{5, 0, 0, 0, 0}, []int{0}, []int{7}, []int{1, 2, 3, 4}, []int{7, 8, 14, 22, 22}},
		{diamond(), []int{5, 0, 0, 0, 0}, []int{0}, []int{0}, []int{1, 2, 3, 4}, []int{0, 1, 0, 1, 1}},
		{diamond(), []int{5, 0, 0, 0, 0}, []int{0}, []int{999}, []int{1, 2, 3, 4}, []int{999, 0, 998, 998, 998}},
		// One half of a diamond stays the same.
		{diamond(), []int{5, 0, 0, 0, 0}, []int{0}, []int{505}, []int{1, 2, 3, 4}, []int{505, 506, 10, 516, 516}},
		{capped(), []int{20, 0, 0}, []int{0}, []int{30}, []int{1}, []int{30, 10, 10}},
		{capped(), []int{20, 0, 0}, []int{0}, []int{10}, []int{1}, []int{10, 10, 10}},
		{capped(), []int{20, 0, 0}, []int{0}, []int{9}, []int{1, 2}, []int{9, 9, 9}},
		{cut, []int{20, 0, 0, 0, 0, 0}, []int{0}, []int{30}, []int{1, 3, 5}, []int{30, 10, 10, 40, 10, 40}},
		// The effect does not read the node 2, reads it then, or reads it no more.
		{switched(), []int{0, 5, 0, 0}, []int{1}, []int{6}, []int{2}, []int{0, 6, 9, 7}},
		{switched(), []int{0, 5, 0, 0}, []int{0}, []int{1}, []int{3}, []int{1, 5, 8, 8}},
		{switched(), []int{0, 5, 0, 0}, []int{0, 1}, []int{1, 6}, []int{2, 3}, []int{1, 6, 9, 9}},
		{switched(), []int{0, 5, 0, 0}, []int{1, 0}, []int{6, 1}, []int{2, 3}, []int{1, 6, 9, 9}},
		{switched(), []int{1, 5, 0, 0}, []int{0, 1}, []int{0, 6}, []int{2, 3}, []int{0, 6, 9, 7}},
		{switched(), []int{1, 5, 0, 0}, []int{0, 1}, []int{1, 6}, []int{2, 3}, []int{1, 6, 9, 9}},
		{switched(), []int{1, 5, 0, 0}, []int{0, 1}, []int{1, 5}, nil, []int{1, 5, 8, 8}},
		// The effect has other reads, but the same value.
		{switched(), []int{0, 4, 0, 0}, []int{0}, []int{1}, []int{3}, []int{1, 4, 7, 7}},
		{doubtful(), []int{3, 0, 0, 0}, []int{0}, []int{4}, []int{1, 2}, []int{4, 1, 5, 70}},
		{doubtful(), []int{3, 0, 0, 0}, []int{0}, []int{8}, []int{1, 2, 3}, []int{8, 0, 9, 9}},
		{doubtful(), []int{8, 0, 0, 0}, []int{0}, []int{3}, []int{1, 2, 3}, []int{3, 1, 4, 70}},
		{loose(), []int{3, 0, 0, 6, 0, 9, 0, 0, 0}, []int{5, 0}, []int{0, 4}, []int{2}, []int{4, 4, 0, 6, 12, 0, 130, 136, 136}},
		{loose(), []int{3, 0, 0, 6, 0, 9, 0, 0, 0}, []int{3}, []int{0}, []int{4, 7, 8}, []int{3, 4, 0, 0, 0, 9, 130, 130, 130}},
		{most, []int{0, 0, 0, 0, 0, 0, 0, 0, 5, 0}, []int{8, 7, 6, 5, 4, 3, 2, 1, 0}, []int{8, 7, 6, 5, 4, 3, 2, 1, 9}, []int{9}, []int{9, 1, 2, 3, 4, 5, 6, 7, 8, 999}},
		// All that the effect reads is another, but not its value.
		{most, []int{1, 0, 0, 0, 0, 0, 0, 0, 5, 0}, []int{8, 0}, []int{6, 2}, []int{9}, []int{2, 0, 0, 0, 0, 0, 0, 0, 6, 4}},
		{ladder(), make([]int, 10), []int{0}, []int{999}, []int{1, 2, 3, 4, 5, 6, 7, 8, 9}, []int{999, 0, 1, 2, 3, 4, 5, 6, 7, 8}},
	} {
		st := meantState(c.g, c.list)
		out, ran := impl.WriteEager(c.g, st, c.nodes, c.values)
		w := write{c.g, c.list, c.nodes, c.values}
		if !slices.Equal(ran, c.ran) || !slices.Equal(out.Values, c.want) || !sameState(out, meantState(c.g, w.after())) {
			t.Errorf("WriteEager(%v) = %v, %v; want %v, %v", w, out, ran, c.want, c.ran)
		}
		if !sameState(st, meantState(c.g, c.list)) {
			t.Errorf("WriteEager(%v) changed its argument", w)
		}
	}
}

func TestReadsAreThoseOfTheLastRun(t *testing.T) {
	g := switched()
	st := switchedState()
	for _, c := range []struct {
		n, value int
		ran      []int
		want     impl.Eager
	}{
		{1, 6, []int{2}, state([]int{0, 6, 9, 7}, nil, nil, []int{1}, []int{0})},
		{0, 2, []int{3}, state([]int{2, 6, 9, 9}, nil, nil, []int{1}, []int{0, 2})},
		{1, 7, []int{2, 3}, state([]int{2, 7, 10, 10}, nil, nil, []int{1}, []int{0, 2})},
		{0, 3, []int{3}, state([]int{3, 7, 10, 10}, nil, nil, []int{1}, []int{0, 2})},
		{0, 0, []int{3}, state([]int{0, 7, 10, 7}, nil, nil, []int{1}, []int{0})},
		{1, 5, []int{2}, switchedState()},
	} {
		hasty, runs := impl.WriteHasty(g, st, c.n, c.value)
		out, ran := impl.WriteEager(g, st, []int{c.n}, []int{c.value})
		if !sameState(out, c.want) || !slices.Equal(ran, c.ran) || !sameState(hasty, c.want) || !slices.Equal(runs, c.ran) {
			t.Errorf("the value %d for the node %d: %v, %v, in haste %v, %v; want %v, %v", c.value, c.n, out, ran, hasty, runs, c.want, c.ran)
		}
		st = out
	}
}

func TestInvalidWrites(t *testing.T) {
	g, st := switched(), switchedState()
	for _, c := range []struct{ nodes, values []int }{
		// Not one value for each node.
		{[]int{0}, nil}, {nil, []int{1}}, {[]int{0, 1}, []int{1}}, {[]int{0}, []int{1, 2}},
		// Nodes that are not different, whatever they get.
		{[]int{0, 0}, []int{1, 2}}, {[]int{1, 1}, []int{1, 1}}, {[]int{0, 1, 0}, []int{0, 5, 0}}, {make([]int, 20), make([]int, 20)},
		// Nodes that are no cells, or not there.
		{[]int{2}, []int{1}}, {[]int{2}, []int{8}}, {[]int{3}, []int{7}}, {[]int{0, 3}, []int{1, 1}}, {[]int{2, 0}, []int{8, 1}},
		{[]int{4}, []int{1}}, {[]int{-1}, []int{1}}, {[]int{0, 10}, []int{1, 1}}, {[]int{math.MaxInt}, []int{1}}, {[]int{math.MinInt}, []int{1}},
		// Values that are not in range.
		{[]int{0}, []int{1000}}, {[]int{0}, []int{-1}}, {[]int{0, 1}, []int{1, 1000}}, {[]int{1, 0}, []int{-1, 1}}, {[]int{1}, []int{math.MaxInt}}, {[]int{1}, []int{math.MinInt}},
	} {
		if out, ran := impl.WriteEager(g, st, c.nodes, c.values); !isNothing(out, ran) {
			t.Errorf("WriteEager(%v, %v) = %v, %v", c.nodes, c.values, out, ran)
		}
		if len(c.nodes) != 1 || len(c.values) != 1 {
			continue
		}
		if out, ran := impl.WriteHasty(g, st, c.nodes[0], c.values[0]); !isNothing(out, ran) {
			t.Errorf("WriteHasty(%v, %v) = %v, %v", c.nodes, c.values, out, ran)
		}
	}
	for _, g := range validGraphs() {
		st := meantState(g, evenCells(g, 1))
		for _, n := range []int{-1, len(g.Nodes), impl.MaxNodes, math.MaxInt, math.MinInt} {
			eager, ran := impl.WriteEager(g, st, []int{n}, []int{1})
			hasty, runs := impl.WriteHasty(g, st, n, 1)
			if !isNothing(eager, ran) || !isNothing(hasty, runs) || len(impl.MayRun(g, []int{n})) != 0 {
				t.Errorf("the node %d of %v", n, g)
			}
		}
	}
}

func TestWriteHasty(t *testing.T) {
	for _, c := range []struct {
		g        impl.Graph
		list     []int
		n, value int
		ran      []int
		want     []int
	}{
		{graph(cell()), []int{3}, 0, 999, nil, []int{999}},
		{diamond(), []int{5, 0, 0, 0, 0}, 0, 5, nil, []int{5, 6, 10, 16, 16}},
		{diamond(), []int{5, 0, 0, 0, 0}, 0, 7, []int{1, 3, 4, 2, 3, 4}, []int{7, 8, 14, 22, 22}},
		// One half of the diamond stays the same, so the other half alone tells on.
		{diamond(), []int{5, 0, 0, 0, 0}, 0, 505, []int{1, 3, 4, 2}, []int{505, 506, 10, 516, 516}},
		{capped(), []int{20, 0, 0}, 0, 30, []int{1}, []int{30, 10, 10}},
		{capped(), []int{20, 0, 0}, 0, 0, []int{1, 2}, []int{0, 0, 0}},
		{switched(), []int{0, 5, 0, 0}, 1, 6, []int{2}, []int{0, 6, 9, 7}},
		{switched(), []int{1, 5, 0, 0}, 1, 6, []int{2, 3}, []int{1, 6, 9, 9}},
		{switched(), []int{1, 5, 0, 0}, 0, 0, []int{3}, []int{0, 5, 8, 7}},
		// The effect runs with the old value of the node 2, reads that from then on, and is told of the new one.
		{doubtful(), []int{3, 0, 0, 0}, 0, 8, []int{1, 3, 2, 3}, []int{8, 0, 9, 9}},
		// The effect reads the node 2 no more when that is met.
		{doubtful(), []int{8, 0, 0, 0}, 0, 3, []int{1, 3, 2}, []int{3, 1, 4, 70}},
		{doubtful(), []int{8, 0, 0, 0}, 0, 9, []int{1, 2, 3}, []int{9, 0, 10, 10}},
		// A node that reads the cell and a node behind it has the last values before it is met for the cell again.
		{
			graph(cell(), derived(read(0)), effect(read(1), read(0), op(impl.PaAdd, 0, 1))), []int{1, 0, 0}, 0, 2,
			[]int{1, 2, 2}, []int{2, 2, 4},
		},
		// In between the effect shows what no cells mean: 1 less 2, and then 2 less 2.
		{
			graph(cell(), derived(read(0)), derived(read(0)), derived(read(1), read(2), op(impl.PaLess, 1, 0)), effect(read(3))), []int{1, 0, 0, 0, 0}, 0, 2,
			[]int{1, 3, 4, 2, 3, 4}, []int{2, 2, 2, 0, 0},
		},
	} {
		st := meantState(c.g, c.list)
		out, ran := impl.WriteHasty(c.g, st, c.n, c.value)
		if !slices.Equal(ran, c.ran) || !slices.Equal(out.Values, c.want) || !impl.ValidEager(c.g, out) {
			t.Errorf("WriteHasty(%v, %v, %d, %d) = %v, %v; want %v, %v", c.g, c.list, c.n, c.value, out, ran, c.want, c.ran)
		}
		if !sameState(st, meantState(c.g, c.list)) {
			t.Errorf("WriteHasty(%v, %v, %d, %d) changed its argument", c.g, c.list, c.n, c.value)
		}
	}
}

// A node of layers changes as often as there are ways to it that take one node of each layer, and it runs whenever a node that it reads changes.
// No write comes to MaxRuns runs: of s nodes that can run for a change, w change for it directly, and for each of these at most s-w others can run, which is at most 91 runs for 9 nodes.
func TestManyHastyRuns(t *testing.T) {
	g := layers()
	out, ran := impl.WriteHasty(g, impl.StartEager(g, make([]int, 10)), 0, 1)
	for n, want := range []int{0, 1, 1, 3, 3, 7, 7, 14, 14, 28} {
		if runs := impl.RunsOf(ran, n); runs != want {
			t.Errorf("the node %d ran %d times; want %d", n, runs, want)
		}
	}
	if len(ran) != 78 || !sameState(out, meantState(g, []int{1, 0, 0, 0, 0, 0, 0, 0, 0, 0})) {
		t.Errorf("%d runs, %v", len(ran), out)
	}
	if impl.MaxRuns != 200 {
		t.Errorf("MaxRuns = %d", impl.MaxRuns)
	}
}

func TestRunsOf(t *testing.T) {
	for _, c := range []struct {
		ran     []int
		n, want int
	}{
		{nil, 0, 0},
		{[]int{}, 3, 0},
		{[]int{1, 3, 4, 2, 3, 4}, 3, 2},
		{[]int{1, 3, 4, 2, 3, 4}, 1, 1},
		{[]int{1, 3, 4, 2, 3, 4}, 0, 0},
		{[]int{1, 3, 4, 2, 3, 4}, 5, 0},
		// It is a list of any numbers, and so long as it likes.
		{[]int{-1, -1, 10, math.MaxInt}, -1, 2},
		{[]int{-1, -1, 10, math.MaxInt}, 10, 1},
		{[]int{-1, -1, 10, math.MaxInt}, math.MaxInt, 1},
		{[]int{-1, -1, 10, math.MaxInt}, math.MinInt, 0},
		{make([]int, 1000), 0, 1000},
	} {
		if runs := impl.RunsOf(c.ran, c.n); runs != c.want {
			t.Errorf("RunsOf(%v, %d) = %d; want %d", c.ran, c.n, runs, c.want)
		}
	}
}

func TestMayRun(t *testing.T) {
	for _, c := range []struct {
		g     impl.Graph
		nodes []int
		want  []int
	}{
		{impl.Graph{}, nil, nil},
		{graph(cell()), []int{0}, nil},
		{graph(effect(num(1))), nil, nil},
		{diamond(), nil, nil},
		{diamond(), []int{0}, []int{1, 2, 3, 4}},
		// The effect may run for the node 1, also if it does not read what is behind that.
		{switched(), []int{1}, []int{2, 3}},
		{switched(), []int{0}, []int{3}},
		{switched(), []int{1, 0}, []int{2, 3}},
		{loose(), []int{5}, nil},
		{loose(), []int{3}, []int{4, 7, 8}},
		{loose(), []int{3, 0, 5}, []int{2, 4, 7, 8}},
		{ladder(), []int{0}, []int{1, 2, 3, 4, 5, 6, 7, 8, 9}},
		{graph(cells(impl.MaxNodes)...), []int{9, 8, 7, 6, 5, 4, 3, 2, 1, 0}, nil},
		// Nodes that are not different, no cells, or not there.
		{diamond(), []int{0, 0}, nil},
		{switched(), []int{1, 0, 1}, nil},
		{diamond(), []int{1}, nil},
		{diamond(), []int{0, 1}, nil},
		{diamond(), []int{4, 0}, nil},
		{diamond(), []int{0, 5}, nil},
		{diamond(), []int{-1, 0}, nil},
		{diamond(), []int{math.MaxInt}, nil},
		{graph(cells(impl.MaxNodes)...), make([]int, 11), nil},
	} {
		if nodes := impl.MayRun(c.g, c.nodes); !slices.Equal(nodes, c.want) {
			t.Errorf("MayRun(%v, %v) = %v; want %v", c.g, c.nodes, nodes, c.want)
		}
	}
}

func TestMustRun(t *testing.T) {
	for _, c := range []struct {
		g    impl.Graph
		a, b []int
		want []int
	}{
		{impl.Graph{}, nil, nil, nil},
		{graph(cell()), []int{1}, []int{2}, nil},
		{diamond(), []int{5, 0, 0, 0, 0}, []int{5, 0, 0, 0, 0}, nil},
		{diamond(), []int{5, 0, 0, 0, 0}, []int{7, 0, 0, 0, 0}, []int{1, 2, 3, 4}},
		// Nodes whose values stay the same must run if something that they read changed.
		{diamond(), []int{5, 0, 0, 0, 0}, []int{505, 0, 0, 0, 0}, []int{1, 2, 3, 4}},
		{capped(), []int{20, 0, 0}, []int{30, 0, 0}, []int{1}},
		{capped(), []int{20, 0, 0}, []int{3, 0, 0}, []int{1, 2}},
		{switched(), []int{0, 4, 0, 0}, []int{1, 4, 0, 0}, []int{3}},
		// What counts is what is read with the cells before.
		{switched(), []int{0, 5, 0, 0}, []int{0, 6, 0, 0}, []int{2}},
		{switched(), []int{1, 5, 0, 0}, []int{1, 6, 0, 0}, []int{2, 3}},
		{doubtful(), []int{3, 0, 0, 0}, []int{4, 0, 0, 0}, []int{1, 2}},
		{doubtful(), []int{6, 0, 0, 0}, []int{7, 0, 0, 0}, []int{1, 2, 3}},
		{loose(), []int{3, 0, 0, 6, 0, 9, 0, 0, 0}, []int{9, 0, 0, 6, 0, 8, 0, 0, 0}, []int{2}},
	} {
		if nodes := impl.MustRun(c.g, c.a, c.b); !slices.Equal(nodes, c.want) {
			t.Errorf("MustRun(%v, %v, %v) = %v; want %v", c.g, c.a, c.b, nodes, c.want)
		}
	}
}
