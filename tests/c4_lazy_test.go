package tests

import (
	"math"
	"slices"
	"testing"

	"loop.example/signalgraph/impl"
)

const (
	clean = impl.ClClean
	doubt = impl.ClCheck
	dirty = impl.ClDirty
)

// coloured returns the state that has nothing stale, but with colours.
func coloured(g impl.Graph, list []int, colours ...int) impl.Lazy {
	st := cleanState(g, list)
	st.Colours = colours
	return st
}

func TestColours(t *testing.T) {
	if impl.ClClean != 0 || impl.ClCheck != 1 || impl.ClDirty != 2 {
		t.Errorf("the colours are %d, %d and %d", impl.ClClean, impl.ClCheck, impl.ClDirty)
	}
}

func TestValidLazy(t *testing.T) {
	one := graph(effect(num(7)))
	for _, c := range []struct {
		g  impl.Graph
		st impl.Lazy
	}{
		{impl.Graph{}, impl.Lazy{}},
		{impl.Graph{}, lazyState([]int{}, []int{}, [][]int{}...)},
		{graph(cell()), lazyState([]int{999}, []int{clean}, nil)},
		{one, lazyState([]int{7}, []int{clean}, nil)},
		{one, lazyState([]int{7}, []int{doubt}, nil)},
		{one, lazyState([]int{3}, []int{dirty}, nil)},
		{switched(), lazyState([]int{0, 5, 8, 7}, []int{clean, clean, clean, clean}, nil, nil, []int{1}, []int{0})},
		{switched(), lazyState([]int{2, 5, 8, 8}, []int{clean, clean, clean, clean}, nil, nil, []int{1}, []int{0, 2})},
		// The effect does not read the node 2, so it is clean whatever that one is.
		{switched(), lazyState([]int{0, 5, 8, 7}, []int{clean, clean, doubt, clean}, nil, nil, []int{1}, []int{0})},
		{switched(), lazyState([]int{0, 5, 999, 7}, []int{clean, clean, dirty, clean}, nil, nil, []int{1}, []int{0})},
		// All that it reads can be clean, and it is to be checked all the same.
		{switched(), lazyState([]int{0, 5, 8, 7}, []int{clean, clean, clean, doubt}, nil, nil, []int{1}, []int{0})},
		{switched(), lazyState([]int{2, 5, 8, 8}, []int{clean, clean, doubt, doubt}, nil, nil, []int{1}, []int{0, 2})},
		// What is to be checked has the value for the values that are there, right or wrong.
		{switched(), lazyState([]int{2, 5, 9, 9}, []int{clean, clean, dirty, doubt}, nil, nil, nil, []int{0, 2})},
		// What is dirty has any value, and any of the reads, in any order.
		{switched(), lazyState([]int{0, 5, 0, 0}, []int{clean, clean, dirty, dirty}, nil, nil, nil, nil)},
		{switched(), lazyState([]int{0, 5, 8, 7}, []int{clean, clean, clean, dirty}, nil, nil, []int{1}, nil)},
		{switched(), lazyState([]int{0, 5, 8, 0}, []int{clean, clean, clean, dirty}, nil, nil, []int{1}, []int{0})},
		{switched(), lazyState([]int{0, 5, 8, 1}, []int{clean, clean, clean, dirty}, nil, nil, []int{1}, []int{2})},
		{switched(), lazyState([]int{0, 5, 8, 999}, []int{clean, clean, clean, dirty}, nil, nil, []int{1}, []int{0, 2})},
		{switched(), lazyState([]int{0, 5, 8, 7}, []int{clean, clean, clean, dirty}, nil, nil, []int{1}, []int{2, 0})},
	} {
		if !impl.ValidLazy(c.g, c.st) {
			t.Errorf("not valid: %v of %v", c.st, c.g)
		}
	}
}

// checkNoLazy checks that all functions of a graph and a state return what they return for arguments that are not valid.
func checkNoLazy(t *testing.T, g impl.Graph, st impl.Lazy) {
	t.Helper()
	if impl.ValidLazy(g, st) {
		t.Errorf("ValidLazy(%v, %v)", g, st)
	}
	if len(impl.StaleOf(g, st)) != 0 || len(impl.LazyCells(g, st)) != 0 {
		t.Errorf("nodes of %v, %v", g, st)
	}
	if out, ran := impl.SettleLazy(g, st); !isNoLazy(out) || len(ran) != 0 {
		t.Errorf("SettleLazy(%v, %v) = %v, %v", g, st, out, ran)
	}
	if out, ran := impl.ReadAll(g, st, nil); !isNoLazy(out) || len(ran) != 0 {
		t.Errorf("ReadAll(%v, %v) = %v, %v", g, st, out, ran)
	}
	for n := range len(g.Nodes) + 1 {
		checkNoNode(t, g, st, n)
	}
}

// checkNoNode checks that all functions of a graph, a state and a node return what they return for arguments that are not valid.
func checkNoNode(t *testing.T, g impl.Graph, st impl.Lazy, n int) {
	t.Helper()
	if out, ok := impl.WriteLazy(g, st, n, 1); ok || !isNoLazy(out) {
		t.Errorf("WriteLazy(%v, %v, %d) = %v, %v", g, st, n, out, ok)
	}
	if out, value, ran := impl.ReadLazy(g, st, n); !isNoLazy(out) || value != 0 || len(ran) != 0 {
		t.Errorf("ReadLazy(%v, %v, %d) = %v, %d, %v", g, st, n, out, value, ran)
	}
	if out, ran := impl.ReadAll(g, st, []int{n}); !isNoLazy(out) || len(ran) != 0 {
		t.Errorf("ReadAll(%v, %v, %d) = %v, %v", g, st, n, out, ran)
	}
	if out, ok := impl.ForgetNode(g, st, n); ok || !isNoLazy(out) {
		t.Errorf("ForgetNode(%v, %v, %d) = %v, %v", g, st, n, out, ok)
	}
}

func TestLazyStatesOfAnotherLength(t *testing.T) {
	good := func() impl.Lazy { return coloured(switched(), []int{0, 5, 0, 0}, clean, clean, clean, clean) }
	for _, change := range []func(st *impl.Lazy){
		func(st *impl.Lazy) { *st = impl.Lazy{} },
		func(st *impl.Lazy) { st.Values = nil },
		func(st *impl.Lazy) { st.Reads = nil },
		func(st *impl.Lazy) { st.Colours = nil },
		func(st *impl.Lazy) { st.Values = st.Values[:3] },
		func(st *impl.Lazy) { st.Reads = st.Reads[:3] },
		func(st *impl.Lazy) { st.Colours = st.Colours[:3] },
		func(st *impl.Lazy) { st.Values = append(st.Values, 0) },
		func(st *impl.Lazy) { st.Reads = append(st.Reads, nil) },
		func(st *impl.Lazy) { st.Colours = append(st.Colours, clean) },
		func(st *impl.Lazy) {
			st.Values, st.Reads, st.Colours = st.Values[:3], st.Reads[:3], st.Colours[:3]
		},
		func(st *impl.Lazy) {
			st.Values, st.Reads, st.Colours = append(st.Values, 0), append(st.Reads, nil), append(st.Colours, clean)
		},
	} {
		st := good()
		change(&st)
		checkNoLazy(t, switched(), st)
	}
	checkNoLazy(t, impl.Graph{}, lazyState([]int{0}, []int{clean}, nil))
	checkNoLazy(t, impl.Graph{}, lazyState(nil, []int{dirty}))
	checkNoLazy(t, graph(cell()), good())
}

func TestInvalidLazyStates(t *testing.T) {
	all := []int{clean, clean, clean, clean}
	for _, st := range []impl.Lazy{
		// Values that are not in range, whatever the colour is.
		lazyState([]int{1000, 5, 8, 8}, all, nil, nil, []int{1}, []int{0, 2}),
		lazyState([]int{0, -1, 2, 7}, all, nil, nil, []int{1}, []int{0}),
		lazyState([]int{0, 5, 1008, 7}, all, nil, nil, []int{1}, []int{0}),
		lazyState([]int{0, 5, 1000, 7}, []int{clean, clean, dirty, clean}, nil, nil, []int{1}, []int{0}),
		lazyState([]int{0, 5, -1, 7}, []int{clean, clean, dirty, clean}, nil, nil, nil, []int{0}),
		lazyState([]int{0, 5, 8, math.MaxInt}, []int{clean, clean, clean, dirty}, nil, nil, []int{1}, nil),
		lazyState([]int{0, 5, 8, math.MinInt}, []int{clean, clean, clean, dirty}, nil, nil, []int{1}, nil),
		lazyState([]int{0, 5, 1000, 0}, []int{clean, clean, dirty, dirty}, nil, nil, nil, nil),
		lazyState([]int{0, 5, 0, -1}, []int{clean, clean, dirty, dirty}, nil, nil, nil, nil),
		lazyState([]int{1000, 5, 0, 0}, []int{clean, clean, dirty, dirty}, nil, nil, nil, nil),
		lazyState([]int{0, -1, 0, 0}, []int{clean, clean, dirty, dirty}, nil, nil, nil, nil),
		// Colours that are none, and cells that are not clean, also where nothing clean reads them.
		coloured(switched(), []int{0, 5, 0, 0}, clean, clean, clean, -1),
		coloured(switched(), []int{0, 5, 0, 0}, clean, clean, clean, 3),
		coloured(switched(), []int{0, 5, 0, 0}, clean, clean, math.MaxInt, clean),
		coloured(switched(), []int{0, 5, 0, 0}, clean, clean, math.MinInt, clean),
		coloured(switched(), []int{0, 5, 0, 0}, clean, 3, dirty, dirty),
		coloured(switched(), []int{0, 5, 0, 0}, clean, -1, dirty, dirty),
		coloured(switched(), []int{0, 5, 0, 0}, clean, doubt, doubt, clean),
		coloured(switched(), []int{0, 5, 0, 0}, doubt, clean, clean, dirty),
		coloured(switched(), []int{0, 5, 0, 0}, clean, dirty, doubt, clean),
		coloured(switched(), []int{0, 5, 0, 0}, dirty, dirty, dirty, dirty),
		// Cells that read something.
		lazyState([]int{0, 5, 8, 7}, all, []int{0}, nil, []int{1}, []int{0}),
		lazyState([]int{0, 5, 8, 7}, all, nil, []int{0}, []int{1}, []int{0}),
		// Values and reads that are not those of the formulas, clean and to be checked.
		lazyState([]int{0, 5, 9, 7}, all, nil, nil, []int{1}, []int{0}),
		lazyState([]int{0, 5, 8, 8}, all, nil, nil, []int{1}, []int{0}),
		lazyState([]int{0, 5, 9, 7}, []int{clean, clean, doubt, clean}, nil, nil, []int{1}, []int{0}),
		lazyState([]int{0, 5, 8, 8}, []int{clean, clean, clean, doubt}, nil, nil, []int{1}, []int{0}),
		lazyState([]int{2, 5, 9, 8}, []int{clean, clean, dirty, doubt}, nil, nil, []int{1}, []int{0, 2}),
		lazyState([]int{0, 5, 8, 7}, all, nil, nil, nil, []int{0}),
		lazyState([]int{0, 5, 8, 7}, all, nil, nil, []int{1}, nil),
		lazyState([]int{0, 5, 8, 7}, all, nil, nil, []int{1}, []int{0, 2}),
		lazyState([]int{2, 5, 8, 8}, all, nil, nil, []int{1}, []int{2, 0}),
		lazyState([]int{2, 5, 8, 8}, all, nil, nil, []int{1}, []int{0, 2, 0}),
		lazyState([]int{0, 5, 8, 7}, []int{clean, clean, doubt, clean}, nil, nil, nil, []int{0}),
		lazyState([]int{0, 5, 8, 7}, []int{clean, clean, clean, doubt}, nil, nil, []int{1}, []int{0, 2}),
		lazyState([]int{2, 5, 8, 8}, []int{clean, clean, clean, doubt}, nil, nil, []int{1}, []int{0}),
		lazyState([]int{2, 5, 8, 8}, []int{clean, clean, clean, doubt}, nil, nil, []int{1}, []int{2, 0}),
		lazyState([]int{2, 5, 8, 8}, []int{clean, clean, clean, doubt}, nil, nil, []int{1}, []int{0, math.MaxInt}),
		// Clean nodes that read nodes that are not.
		coloured(switched(), []int{2, 5, 0, 0}, clean, clean, doubt, clean),
		coloured(switched(), []int{2, 5, 0, 0}, clean, clean, dirty, clean),
		lazyState([]int{2, 5, 9, 9}, []int{clean, clean, dirty, clean}, nil, nil, []int{1}, []int{0, 2}),
		// Reads of dirty nodes that are not different, or that their formula does not have.
		lazyState([]int{0, 5, 8, 7}, []int{clean, clean, dirty, clean}, nil, nil, []int{1, 1}, []int{0}),
		lazyState([]int{0, 5, 8, 7}, []int{clean, clean, dirty, clean}, nil, nil, []int{0}, []int{0}),
		lazyState([]int{0, 5, 8, 7}, []int{clean, clean, dirty, clean}, nil, nil, []int{1, 0}, []int{0}),
		lazyState([]int{0, 5, 8, 7}, []int{clean, clean, dirty, clean}, nil, nil, []int{2}, []int{0}),
		lazyState([]int{0, 5, 8, 7}, []int{clean, clean, dirty, clean}, nil, nil, []int{3}, []int{0}),
		lazyState([]int{0, 5, 8, 7}, []int{clean, clean, dirty, clean}, nil, nil, []int{-1}, []int{0}),
		lazyState([]int{0, 5, 8, 7}, []int{clean, clean, dirty, clean}, nil, nil, []int{math.MaxInt}, []int{0}),
		lazyState([]int{0, 5, 8, 7}, []int{clean, clean, clean, dirty}, nil, nil, []int{1}, []int{1}),
		lazyState([]int{0, 5, 8, 7}, []int{clean, clean, clean, dirty}, nil, nil, []int{1}, []int{0, 2, 0}),
		lazyState([]int{0, 5, 8, 7}, []int{clean, clean, clean, dirty}, nil, nil, []int{1}, []int{2, 2}),
		lazyState([]int{0, 5, 8, 7}, []int{clean, clean, clean, dirty}, nil, nil, []int{1}, make([]int, 1000)),
	} {
		checkNoLazy(t, switched(), st)
	}
}

func TestLazyOfInvalidGraphs(t *testing.T) {
	for _, g := range invalidGraphs() {
		list := evenCells(g, 0)
		if st := impl.StartLazy(g, list); !isNoLazy(st) {
			t.Errorf("StartLazy(%v) = %v", g, st)
		}
		checkNoLazy(t, g, startedState(g, list))
		checkNoLazy(t, g, lazyState(list, list, make([][]int, len(list))...))
		checkNoLazy(t, g, impl.Lazy{})
	}
	// Only what is behind the others is wrong, and nothing is done with it.
	bad := graph(cell(), derived(read(0)), effect(read(1)), effect(read(2)))
	checkNoLazy(t, bad, lazyState([]int{3, 3, 3, 3}, []int{clean, clean, clean, dirty}, nil, []int{0}, []int{1}, nil))
}

func TestStartLazy(t *testing.T) {
	for _, c := range []struct {
		g    impl.Graph
		list []int
		want impl.Lazy
	}{
		{impl.Graph{}, nil, impl.Lazy{}},
		{graph(cell()), []int{999}, lazyState([]int{999}, []int{clean}, nil)},
		{graph(effect(num(7))), []int{0}, lazyState([]int{0}, []int{dirty}, nil)},
		{diamond(), []int{5, 0, 0, 0, 0}, lazyState([]int{5, 0, 0, 0, 0}, []int{clean, dirty, dirty, dirty, dirty}, nil, nil, nil, nil, nil)},
		{switched(), []int{1, 5, 0, 0}, lazyState([]int{1, 5, 0, 0}, []int{clean, clean, dirty, dirty}, nil, nil, nil, nil)},
	} {
		if st := impl.StartLazy(c.g, c.list); !sameLazy(st, c.want) {
			t.Errorf("StartLazy(%v, %v) = %v; want %v", c.g, c.list, st, c.want)
		}
	}
	for _, g := range validGraphs() {
		for _, value := range []int{0, 1, impl.Modulus - 1} {
			list := evenCells(g, value)
			if st := impl.StartLazy(g, list); !sameLazy(st, startedState(g, list)) || !impl.ValidLazy(g, st) {
				t.Errorf("StartLazy(%v, %v) = %v", g, list, st)
			}
		}
	}
	for _, list := range [][]int{
		nil, {0}, {0, 5, 0}, {0, 5, 0, 0, 0}, {1000, 5, 0, 0}, {-1, 5, 0, 0}, {math.MaxInt, 5, 0, 0}, {0, 5, 8, 0}, {0, 5, 0, 7}, {0, 5, 8, 7},
	} {
		if st := impl.StartLazy(switched(), list); !isNoLazy(st) {
			t.Errorf("StartLazy(%v) = %v", list, st)
		}
	}
	if st := impl.StartLazy(impl.Graph{}, []int{0}); !isNoLazy(st) {
		t.Errorf("StartLazy of no nodes = %v", st)
	}
}

func TestWriteLazy(t *testing.T) {
	short := graph(cell(), derived(read(0)), effect(read(1), read(0), op(impl.PaAdd, 0, 1)))
	five := []int{5, 0, 0, 0, 0}
	for _, c := range []struct {
		g        impl.Graph
		st       impl.Lazy
		n, value int
		want     []int
	}{
		{graph(cell()), lazyState([]int{3}, []int{clean}, nil), 0, 999, []int{clean}},
		{diamond(), coloured(diamond(), five, clean, clean, clean, clean, clean), 0, 7, []int{clean, dirty, dirty, doubt, doubt}},
		{diamond(), startedState(diamond(), five), 0, 7, []int{clean, dirty, dirty, dirty, dirty}},
		{ladder(), cleanState(ladder(), make([]int, 10)), 0, 1, []int{clean, dirty, doubt, doubt, doubt, doubt, doubt, doubt, doubt, doubt}},
		// The value that is there already.
		{diamond(), coloured(diamond(), five, clean, clean, clean, clean, clean), 0, 5, []int{clean, clean, clean, clean, clean}},
		{diamond(), coloured(diamond(), five, clean, doubt, clean, dirty, doubt), 0, 5, []int{clean, doubt, clean, dirty, doubt}},
		// A node that reads the cell is dirty, also if another way leads to it.
		{short, cleanState(short, []int{1, 0, 0}), 0, 2, []int{clean, dirty, dirty}},
		// What is dirty stays so behind others, and what is to be checked does, or is dirty if it reads the cell.
		{diamond(), coloured(diamond(), five, clean, clean, clean, dirty, doubt), 0, 7, []int{clean, dirty, dirty, dirty, doubt}},
		{diamond(), coloured(diamond(), five, clean, doubt, clean, doubt, dirty), 0, 7, []int{clean, dirty, dirty, doubt, dirty}},
		// What counts is what a node reads, and not what it may read.
		{switched(), cleanState(switched(), []int{0, 5, 0, 0}), 1, 6, []int{clean, clean, dirty, clean}},
		{switched(), cleanState(switched(), []int{2, 5, 0, 0}), 1, 6, []int{clean, clean, dirty, doubt}},
		{switched(), cleanState(switched(), []int{0, 5, 0, 0}), 0, 2, []int{clean, clean, clean, dirty}},
		{switched(), cleanState(switched(), []int{2, 5, 0, 0}), 0, 3, []int{clean, clean, clean, dirty}},
		// A cell that is read by nobody.
		{loose(), cleanState(loose(), []int{3, 0, 0, 6, 0, 9, 0, 0, 0}), 5, 8, make([]int, 9)},
	} {
		before := copiedLazy(c.st)
		out, ok := impl.WriteLazy(c.g, c.st, c.n, c.value)
		want := copiedLazy(c.st)
		want.Values[c.n] = c.value
		want.Colours = c.want
		if !ok || !sameLazy(out, want) || !sameLazy(c.st, before) {
			t.Errorf("WriteLazy(%v, %v, %d, %d) = %v, %v; want %v", c.g, before, c.n, c.value, out, ok, want)
		}
	}
}

func TestInvalidLazyWrites(t *testing.T) {
	g, st := switched(), cleanState(switched(), []int{0, 5, 0, 0})
	for _, c := range []struct{ n, value int }{
		{2, 1}, {2, 8}, {3, 7}, {4, 1}, {-1, 1}, {10, 1}, {math.MaxInt, 1}, {math.MinInt, 1},
		{0, 1000}, {0, -1}, {1, math.MaxInt}, {1, math.MinInt}, {2, -1},
	} {
		if out, ok := impl.WriteLazy(g, st, c.n, c.value); ok || !isNoLazy(out) {
			t.Errorf("WriteLazy(%d, %d) = %v, %v", c.n, c.value, out, ok)
		}
	}
	for _, g := range validGraphs() {
		st := startedState(g, evenCells(g, 1))
		for _, n := range []int{-1, len(g.Nodes), impl.MaxNodes, math.MaxInt, math.MinInt} {
			checkNoNode(t, g, st, n)
		}
	}
}

func TestReadLazy(t *testing.T) {
	five := []int{5, 0, 0, 0, 0}
	backward := graph(cell(), derived(read(0)), derived(read(0)), effect(read(2), read(1), op(impl.PaSub, 0, 1)))
	twice := graph(cell(), derived(read(0)), effect(read(1), read(1), op(impl.PaAdd, 0, 1)))
	one := graph(effect(num(7)))
	for _, c := range []struct {
		g     impl.Graph
		st    impl.Lazy
		n     int
		value int
		ran   []int
		want  []int
	}{
		// Cells, and nodes that are clean.
		{graph(cell()), lazyState([]int{3}, []int{clean}, nil), 0, 3, nil, []int{clean}},
		{switched(), startedState(switched(), []int{1, 5, 0, 0}), 1, 5, nil, []int{clean, clean, dirty, dirty}},
		{diamond(), coloured(diamond(), five, clean, clean, clean, clean, doubt), 3, 16, nil, []int{clean, clean, clean, clean, doubt}},
		// Nodes that are read for the first time, and no others.
		{diamond(), startedState(diamond(), five), 1, 6, []int{1}, []int{clean, clean, dirty, dirty, dirty}},
		{diamond(), startedState(diamond(), five), 3, 16, []int{1, 2, 3}, []int{clean, clean, clean, clean, dirty}},
		{diamond(), startedState(diamond(), five), 4, 16, []int{1, 2, 3, 4}, []int{clean, clean, clean, clean, clean}},
		{switched(), startedState(switched(), []int{0, 5, 0, 0}), 3, 7, []int{3}, []int{clean, clean, dirty, clean}},
		{switched(), startedState(switched(), []int{2, 5, 0, 0}), 3, 8, []int{2, 3}, []int{clean, clean, clean, clean}},
		{ladder(), startedState(ladder(), make([]int, 10)), 4, 4, []int{1, 2, 3, 4}, []int{clean, clean, clean, clean, clean, dirty, dirty, dirty, dirty, dirty}},
		// They run in the order in which they are read, each once.
		{backward, startedState(backward, []int{3, 0, 0, 0}), 3, 0, []int{2, 1, 3}, []int{clean, clean, clean, clean}},
		{twice, startedState(twice, []int{4, 0, 0}), 2, 8, []int{1, 2}, []int{clean, clean, clean}},
		// A node that has the value already that it has after its run.
		{capped(), startedState(capped(), []int{0, 0, 0}), 1, 0, []int{1}, []int{clean, clean, dirty}},
		{capped(), startedState(capped(), []int{0, 0, 0}), 2, 0, []int{1, 2}, []int{clean, clean, clean}},
		{one, lazyState([]int{7}, []int{dirty}, nil), 0, 7, []int{0}, []int{clean}},
		{one, lazyState([]int{3}, []int{dirty}, nil), 0, 7, []int{0}, []int{clean}},
		// Nodes that need not run after all.
		{one, lazyState([]int{7}, []int{doubt}, nil), 0, 7, nil, []int{clean}},
		{capped(), coloured(capped(), []int{20, 0, 0}, clean, clean, doubt), 2, 10, nil, []int{clean, clean, clean}},
		{capped(), coloured(capped(), []int{20, 0, 0}, clean, doubt, doubt), 2, 10, nil, []int{clean, clean, clean}},
		{capped(), coloured(capped(), []int{20, 0, 0}, clean, doubt, doubt), 1, 10, nil, []int{clean, clean, doubt}},
		{capped(), coloured(capped(), []int{20, 0, 0}, clean, dirty, doubt), 2, 10, []int{1}, []int{clean, clean, clean}},
		// What is to be checked need not be wrong if all that it reads was right.
		{capped(), lazyState([]int{20, 10, 10}, []int{clean, dirty, doubt}, nil, nil, []int{1}), 2, 10, []int{1}, []int{clean, clean, clean}},
		{capped(), lazyState([]int{20, 9, 9}, []int{clean, dirty, doubt}, nil, nil, []int{1}), 2, 10, []int{1, 2}, []int{clean, clean, clean}},
		{capped(), lazyState([]int{20, 9, 9}, []int{clean, dirty, doubt}, nil, nil, []int{1}), 1, 10, []int{1}, []int{clean, clean, dirty}},
	} {
		before := copiedLazy(c.st)
		out, value, ran := impl.ReadLazy(c.g, c.st, c.n)
		if value != c.value || !slices.Equal(ran, c.ran) || !slices.Equal(out.Colours, c.want) || !sameLazy(c.st, before) {
			t.Errorf("ReadLazy(%v, %v, %d) = %v, %d, %v; want %d, %v, %v", c.g, before, c.n, out, value, ran, c.value, c.ran, c.want)
		}
		if want, _ := wantedRead(c.g, before, []int{c.n}); !sameLazy(out, want) {
			t.Errorf("ReadLazy(%v, %v, %d) = %v; want %v", c.g, before, c.n, out, want)
		}
	}
}

func TestReadsAfterWrites(t *testing.T) {
	five := []int{5, 0, 0, 0, 0}
	turned := diamond()
	turned.Nodes[3] = derived(read(2), read(1), op(impl.PaAdd, 0, 1))
	tree := graph(cell(), derived(read(0)), derived(read(1)), effect(read(2)), effect(read(1)))
	for _, c := range []struct {
		g     impl.Graph
		list  []int
		value int
		nodes []int
		ran   []int
		want  impl.Lazy
	}{
		{capped(), []int{20, 0, 0}, 30, []int{2}, []int{1}, lazyState([]int{30, 10, 10}, []int{clean, clean, clean}, nil, []int{0}, []int{1})},
		{capped(), []int{20, 0, 0}, 3, []int{2}, []int{1, 2}, lazyState([]int{3, 3, 3}, []int{clean, clean, clean}, nil, []int{0}, []int{1})},
		{capped(), []int{20, 0, 0}, 3, []int{1}, []int{1}, lazyState([]int{3, 3, 10}, []int{clean, clean, dirty}, nil, []int{0}, []int{1})},
		// The first read is another, so the node runs at once, and the other one is made clean where it is still read.
		{doubtful(), []int{8, 0, 0, 0}, 3, []int{3}, []int{1, 3}, lazyState([]int{3, 1, 9, 70}, []int{clean, clean, dirty, clean}, nil, []int{0}, []int{0}, []int{1})},
		{doubtful(), []int{8, 0, 0, 0}, 9, []int{3}, []int{1, 2, 3}, lazyState([]int{9, 0, 10, 10}, []int{clean, clean, clean, clean}, nil, []int{0}, []int{0}, []int{1, 2})},
		{doubtful(), []int{3, 0, 0, 0}, 8, []int{3}, []int{1, 2, 3}, lazyState([]int{8, 0, 9, 9}, []int{clean, clean, clean, clean}, nil, []int{0}, []int{0}, []int{1, 2})},
		{doubtful(), []int{3, 0, 0, 0}, 4, []int{3}, []int{1}, lazyState([]int{4, 1, 4, 70}, []int{clean, clean, dirty, clean}, nil, []int{0}, []int{0}, []int{1})},
		// The node that reads both is dirty before it is read.
		{doubtful(), []int{8, 0, 0, 0}, 9, []int{2, 3}, []int{2, 1, 3}, lazyState([]int{9, 0, 10, 10}, []int{clean, clean, clean, clean}, nil, []int{0}, []int{0}, []int{1, 2})},
		{doubtful(), []int{8, 0, 0, 0}, 3, []int{2, 3}, []int{2, 1, 3}, lazyState([]int{3, 1, 4, 70}, []int{clean, clean, clean, clean}, nil, []int{0}, []int{0}, []int{1})},
		{doubtful(), []int{8, 0, 0, 0}, 3, []int{2}, []int{2}, lazyState([]int{3, 0, 4, 9}, []int{clean, dirty, clean, dirty}, nil, []int{0}, []int{0}, []int{1, 2})},
		// One half of a diamond stays the same, and the order of reads counts.
		{diamond(), five, 505, []int{4}, []int{1, 2, 3, 4}, cleanState(diamond(), []int{505, 0, 0, 0, 0})},
		{turned, five, 505, []int{4}, []int{2, 1, 3, 4}, cleanState(turned, []int{505, 0, 0, 0, 0})},
		{diamond(), five, 505, []int{2}, []int{2}, lazyState([]int{505, 6, 10, 16, 16}, []int{clean, dirty, clean, doubt, doubt}, nil, []int{0}, []int{0}, []int{1, 2}, []int{3})},
		{diamond(), five, 505, []int{1}, []int{1}, lazyState([]int{505, 506, 10, 16, 16}, []int{clean, clean, dirty, dirty, doubt}, nil, []int{0}, []int{0}, []int{1, 2}, []int{3})},
		// What is not read does not run, but has to if something that it reads ran and is another.
		{tree, []int{1, 0, 0, 0, 0}, 2, []int{4}, []int{1, 4}, lazyState([]int{2, 2, 1, 1, 2}, []int{clean, clean, dirty, doubt, clean}, nil, []int{0}, []int{1}, []int{2}, []int{1})},
		{tree, []int{1, 0, 0, 0, 0}, 2, []int{3}, []int{1, 2, 3}, lazyState([]int{2, 2, 2, 2, 1}, []int{clean, clean, clean, clean, dirty}, nil, []int{0}, []int{1}, []int{2}, []int{1})},
		{tree, []int{1, 0, 0, 0, 0}, 2, []int{4, 3, 2, 4, 1, 0}, []int{1, 4, 2, 3}, cleanState(tree, []int{2, 0, 0, 0, 0})},
		{tree, []int{1, 0, 0, 0, 0}, 2, nil, nil, lazyState([]int{2, 1, 1, 1, 1}, []int{clean, dirty, doubt, doubt, doubt}, nil, []int{0}, []int{1}, []int{2}, []int{1})},
	} {
		st, ok := impl.WriteLazy(c.g, cleanState(c.g, c.list), 0, c.value)
		out, ran := impl.ReadAll(c.g, st, c.nodes)
		if !ok || !sameLazy(out, c.want) || !slices.Equal(ran, c.ran) || !impl.ValidLazy(c.g, out) {
			t.Errorf("ReadAll(%v, %v, %v) = %v, %v; want %v, %v", c.g, st, c.nodes, out, ran, c.want, c.ran)
		}
	}
}

func TestInvalidReadAll(t *testing.T) {
	g, st := diamond(), startedState(diamond(), []int{5, 0, 0, 0, 0})
	most := []int{3, 3, 3, 3, 3, 3, 3, 3, 3, 3}
	want, wanted := wantedRead(g, st, []int{3})
	if out, ran := impl.ReadAll(g, st, most); !sameLazy(out, want) || !slices.Equal(ran, wanted) {
		t.Errorf("ReadAll(%v) = %v, %v", most, out, ran)
	}
	for _, nodes := range [][]int{
		append(most, 3), make([]int, 11), make([]int, 1000), {5}, {-1}, {1, 5}, {5, 1}, {1, 2, -1, 3}, {3, 10}, {math.MaxInt}, {math.MinInt},
	} {
		if out, ran := impl.ReadAll(g, st, nodes); !isNoLazy(out) || len(ran) != 0 {
			t.Errorf("ReadAll(%v) = %v, %v", nodes, out, ran)
		}
	}
	if out, ran := impl.ReadAll(g, st, nil); !sameLazy(out, st) || len(ran) != 0 {
		t.Errorf("ReadAll of no nodes = %v, %v", out, ran)
	}
	if out, ran := impl.ReadAll(impl.Graph{}, impl.Lazy{}, []int{0}); !isNoLazy(out) || len(ran) != 0 {
		t.Errorf("ReadAll of no graph = %v, %v", out, ran)
	}
}

func TestForgetNode(t *testing.T) {
	five := []int{5, 0, 0, 0, 0}
	for _, c := range []struct {
		g    impl.Graph
		st   impl.Lazy
		n    int
		want []int
	}{
		{graph(effect(num(7))), lazyState([]int{7}, []int{clean}, nil), 0, []int{dirty}},
		{diamond(), coloured(diamond(), five, clean, clean, clean, clean, clean), 1, []int{clean, dirty, clean, doubt, doubt}},
		{diamond(), coloured(diamond(), five, clean, clean, clean, clean, clean), 3, []int{clean, clean, clean, dirty, doubt}},
		{diamond(), coloured(diamond(), five, clean, clean, clean, clean, clean), 4, []int{clean, clean, clean, clean, dirty}},
		{diamond(), startedState(diamond(), five), 3, []int{clean, dirty, dirty, dirty, dirty}},
		// Nodes that are stale already, and nodes behind that are.
		{diamond(), coloured(diamond(), five, clean, doubt, clean, doubt, doubt), 1, []int{clean, dirty, clean, doubt, doubt}},
		{diamond(), coloured(diamond(), five, clean, dirty, clean, doubt, doubt), 1, []int{clean, dirty, clean, doubt, doubt}},
		{diamond(), coloured(diamond(), five, clean, clean, clean, dirty, doubt), 1, []int{clean, dirty, clean, dirty, doubt}},
		{diamond(), coloured(diamond(), five, clean, clean, clean, doubt, dirty), 2, []int{clean, clean, dirty, doubt, dirty}},
		{diamond(), coloured(diamond(), five, clean, clean, clean, dirty, dirty), 3, []int{clean, clean, clean, dirty, dirty}},
		// What counts is what a node reads.
		{switched(), cleanState(switched(), []int{0, 5, 0, 0}), 2, []int{clean, clean, dirty, clean}},
		{switched(), cleanState(switched(), []int{2, 5, 0, 0}), 2, []int{clean, clean, dirty, doubt}},
		{ladder(), cleanState(ladder(), make([]int, 10)), 6, []int{clean, clean, clean, clean, clean, clean, dirty, doubt, doubt, doubt}},
	} {
		before := copiedLazy(c.st)
		out, ok := impl.ForgetNode(c.g, c.st, c.n)
		want := copiedLazy(c.st)
		want.Reads[c.n] = nil
		want.Colours = c.want
		if !ok || !sameLazy(out, want) || !sameLazy(c.st, before) {
			t.Errorf("ForgetNode(%v, %v, %d) = %v, %v; want %v", c.g, before, c.n, out, ok, want)
		}
	}
	// Cells are not forgotten.
	for n := range 2 {
		if out, ok := impl.ForgetNode(switched(), cleanState(switched(), []int{0, 5, 0, 0}), n); ok || !isNoLazy(out) {
			t.Errorf("ForgetNode of the cell %d = %v, %v", n, out, ok)
		}
	}
}

// forgotten returns the state that has nothing stale, but with a node that was forgotten.
func forgotten(g impl.Graph, list []int, n int) impl.Lazy {
	out, _ := impl.ForgetNode(g, cleanState(g, list), n)
	return out
}

func TestReadsOfForgottenNodes(t *testing.T) {
	g := diamond()
	st := forgotten(g, []int{5, 0, 0, 0, 0}, 1)
	for _, c := range []struct {
		nodes []int
		ran   []int
		want  []int
	}{
		// Its value is the same as before, so nothing behind it runs.
		{[]int{1}, []int{1}, []int{clean, clean, clean, doubt, doubt}},
		{[]int{2}, nil, []int{clean, dirty, clean, doubt, doubt}},
		{[]int{3}, []int{1}, []int{clean, clean, clean, clean, doubt}},
		{[]int{4}, []int{1}, []int{clean, clean, clean, clean, clean}},
		{[]int{4, 1, 3}, []int{1}, []int{clean, clean, clean, clean, clean}},
	} {
		out, ran := impl.ReadAll(g, st, c.nodes)
		want := cleanState(g, []int{5, 0, 0, 0, 0})
		want.Colours = c.want
		if want.Colours[1] == dirty {
			want.Reads[1] = nil
		}
		if !sameLazy(out, want) || !slices.Equal(ran, c.ran) {
			t.Errorf("ReadAll(%v, %v) = %v, %v; want %v, %v", st, c.nodes, out, ran, want, c.ran)
		}
	}
	// A node that was forgotten reads nothing, but runs with what was written since then.
	written, _ := impl.WriteLazy(g, st, 0, 7)
	if !slices.Equal(written.Colours, []int{clean, dirty, dirty, doubt, doubt}) {
		t.Errorf("WriteLazy(%v) = %v", st, written)
	}
	if out, value, ran := impl.ReadLazy(g, written, 4); value != 22 || !slices.Equal(ran, []int{1, 2, 3, 4}) || !sameLazy(out, cleanState(g, []int{7, 0, 0, 0, 0})) {
		t.Errorf("ReadLazy(%v) = %v, %d, %v", written, out, value, ran)
	}
	short := forgotten(capped(), []int{20, 0, 0}, 1)
	same, _ := impl.WriteLazy(capped(), short, 0, 3)
	if !slices.Equal(same.Colours, short.Colours) {
		t.Errorf("WriteLazy(%v) = %v", short, same)
	}
	if out, value, ran := impl.ReadLazy(capped(), same, 2); value != 3 || !slices.Equal(ran, []int{1, 2}) || !sameLazy(out, cleanState(capped(), []int{3, 0, 0})) {
		t.Errorf("ReadLazy(%v) = %v, %d, %v", same, out, value, ran)
	}
	// An effect that was forgotten does not read what it read before.
	shown := forgotten(switched(), []int{2, 5, 0, 0}, 3)
	off, _ := impl.WriteLazy(switched(), shown, 0, 0)
	if out, value, ran := impl.ReadLazy(switched(), off, 3); value != 7 || !slices.Equal(ran, []int{3}) || !slices.Equal(out.Reads[3], []int{0}) {
		t.Errorf("ReadLazy(%v) = %v, %d, %v", off, out, value, ran)
	}
}

func TestStaleNodesAndCells(t *testing.T) {
	five := []int{5, 0, 0, 0, 0}
	for _, c := range []struct {
		g     impl.Graph
		st    impl.Lazy
		stale []int
		list  []int
		ran   []int
	}{
		{impl.Graph{}, impl.Lazy{}, nil, nil, nil},
		{graph(cell()), lazyState([]int{3}, []int{clean}, nil), nil, []int{3}, nil},
		{graph(effect(num(7))), lazyState([]int{3}, []int{dirty}, nil), []int{0}, []int{0}, []int{0}},
		{graph(effect(num(7))), lazyState([]int{7}, []int{doubt}, nil), []int{0}, []int{0}, nil},
		{diamond(), startedState(diamond(), five), []int{1, 2, 3, 4}, five, []int{1, 2, 3, 4}},
		{diamond(), cleanState(diamond(), five), nil, five, nil},
		{diamond(), coloured(diamond(), five, clean, clean, dirty, doubt, doubt), []int{2, 3, 4}, five, []int{2}},
		{diamond(), coloured(diamond(), five, clean, clean, doubt, dirty, doubt), []int{2, 3, 4}, five, []int{3}},
		{loose(), startedState(loose(), []int{3, 0, 0, 6, 0, 9, 0, 0, 0}), []int{1, 2, 4, 6, 7, 8}, []int{3, 0, 0, 6, 0, 9, 0, 0, 0}, []int{1, 2, 4, 6, 7, 8}},
	} {
		if stale := impl.StaleOf(c.g, c.st); !slices.Equal(stale, c.stale) {
			t.Errorf("StaleOf(%v, %v) = %v; want %v", c.g, c.st, stale, c.stale)
		}
		if list := impl.LazyCells(c.g, c.st); !slices.Equal(list, c.list) {
			t.Errorf("LazyCells(%v, %v) = %v; want %v", c.g, c.st, list, c.list)
		}
		before := copiedLazy(c.st)
		out, ran := impl.SettleLazy(c.g, c.st)
		if !slices.Equal(ran, c.ran) || !sameLazy(out, cleanState(c.g, c.list)) || !sameLazy(c.st, before) {
			t.Errorf("SettleLazy(%v, %v) = %v, %v; want %v", c.g, before, out, ran, c.ran)
		}
	}
}
