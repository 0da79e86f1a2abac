package tests

import (
	"math"
	"math/rand"
	"slices"
	"testing"

	"loop.example/signalgraph/impl"
)

// diamond returns a cell, two nodes that read it, one that reads both, and an effect.
func diamond() impl.Graph {
	return graph(
		cell(),
		derived(read(0), num(1), op(impl.PaAdd, 0, 1)),
		derived(read(0), num(2), op(impl.PaMul, 0, 1)),
		derived(read(1), read(2), op(impl.PaAdd, 0, 1)),
		effect(read(3)),
	)
}

// switched returns two cells, a node that reads the second one, and an effect that reads it only if the first one is not 0.
func switched() impl.Graph {
	return graph(
		cell(),
		cell(),
		derived(read(1), num(3), op(impl.PaAdd, 0, 1)),
		effect(read(0), read(2), num(7), when(0, 1, 2)),
	)
}

// loose returns nodes that are tied to few others: the cell 5 is read by nobody, 1 and 6 have no reads, no effect needs 0 and 2, and effects are between the others.
func loose() impl.Graph {
	return graph(
		cell(),
		effect(num(4)),
		derived(read(0), num(1), op(impl.PaLess, 0, 1)),
		cell(),
		effect(read(3), read(3), op(impl.PaAdd, 0, 1)),
		cell(),
		derived(num(60), num(70), op(impl.PaAdd, 0, 1)),
		derived(read(6), read(3), op(impl.PaAdd, 1, 0)),
		effect(read(7)),
	)
}

// ladder returns a cell and MaxNodes-1 nodes, each of which reads the one ahead of it.
func ladder() impl.Graph {
	nodes := cells(1)
	for len(nodes) < impl.MaxNodes {
		nodes = append(nodes, derived(read(len(nodes)-1), num(1), op(impl.PaAdd, 0, 1)))
	}
	return graph(nodes...)
}

func validGraphs() []impl.Graph {
	return []impl.Graph{
		{},
		{Nodes: []impl.Node{}},
		graph(cell()),
		graph(impl.Node{Kind: impl.NdCell, Formula: impl.Formula{Parts: []impl.Part{}}}),
		graph(derived(num(1))),
		graph(effect(num(99))),
		graph(cell(), effect(read(0)), effect(read(0))),
		graph(cell(), derived(read(0)), derived(read(1)), effect(read(2), read(1), read(0), when(0, 1, 2))),
		graph(cells(impl.MaxNodes)...),
		graph(append(cells(impl.MaxNodes-1), effect(read(0), read(8), op(impl.PaAdd, 1, 0)))...),
		diamond(),
		switched(),
		loose(),
		ladder(),
	}
}

func invalidGraphs() []impl.Graph {
	return []impl.Graph{
		graph(cells(impl.MaxNodes + 1)...),
		graph(append(ladder().Nodes, effect(read(9)))...),
		graph(make([]impl.Node, 1000)...),
		graph(impl.Node{Kind: -1}),
		graph(impl.Node{Kind: impl.NdEffect + 1}),
		graph(impl.Node{Kind: impl.NdEffect + 1, Formula: formula(num(1))}),
		graph(impl.Node{Kind: math.MaxInt}, cell()),
		graph(cell(), impl.Node{Kind: math.MinInt, Formula: formula(read(0))}),
		// Cells with a formula, and other nodes without one.
		graph(impl.Node{Kind: impl.NdCell, Formula: formula(num(1))}),
		graph(cell(), impl.Node{Kind: impl.NdCell, Formula: formula(read(0))}),
		graph(impl.Node{Kind: impl.NdCell, Formula: formula(num(100))}),
		graph(derived()),
		graph(effect()),
		graph(impl.Node{Kind: impl.NdEffect, Formula: impl.Formula{Parts: []impl.Part{}}}),
		// Formulas that are not valid.
		graph(derived(num(100))),
		graph(cell(), effect(num(1), read(0))),
		graph(cell(), derived(read(-1))),
		graph(cell(), derived(read(0), op(impl.PaAdd, 0, 0))),
		graph(append(cells(9), derived(read(10)))...),
		// Nodes that are not ahead.
		graph(derived(read(0))),
		graph(effect(read(0))),
		graph(derived(read(1)), cell()),
		graph(cell(), derived(read(1))),
		graph(cell(), derived(read(2))),
		graph(cell(), derived(read(9))),
		graph(cell(), derived(read(0), read(2), op(impl.PaMin, 0, 1)), cell()),
		graph(cell(), derived(num(1), num(2), read(1), when(0, 1, 2))),
		// Effects that may be read, if only where they are not.
		graph(effect(num(1)), effect(read(0))),
		graph(cell(), effect(read(0)), derived(read(1))),
		graph(cell(), effect(read(0)), cell(), derived(num(1), read(0), read(1), when(0, 1, 2))),
		// A node that is wrong, but not the last one.
		graph(impl.Node{Kind: 3}, cell()),
		graph(cell(), derived(), cell()),
	}
}

func TestValidGraph(t *testing.T) {
	for _, g := range validGraphs() {
		if !impl.ValidGraph(g) {
			t.Errorf("not valid: %v", g)
		}
	}
	for _, g := range invalidGraphs() {
		if impl.ValidGraph(g) {
			t.Errorf("valid: %v", g)
		}
	}
}

// isValidGraph is another way to tell: each node that some part reads is ahead, and no effect.
func isValidGraph(g impl.Graph) bool {
	for i, n := range g.Nodes {
		isCell := n.Kind == impl.NdCell
		isKnown := isCell || n.Kind == impl.NdDerived || n.Kind == impl.NdEffect
		if !isKnown || isCell != (len(n.Formula.Parts) == 0) || !isCell && !isValid(n.Formula) {
			return false
		}
		for _, p := range n.Formula.Parts {
			if p.Kind == impl.PaRead && (p.N >= i || g.Nodes[p.N].Kind == impl.NdEffect) {
				return false
			}
		}
	}
	return len(g.Nodes) <= 10
}

// changeNode changes one thing about a node.
func changeNode(r *rand.Rand, n *impl.Node) {
	switch r.Intn(4) {
	case 0:
		n.Kind = r.Intn(5) - 1
	case 1:
		n.Formula = randomFormula(r)
	case 2:
		n.Formula = impl.Formula{}
	case 3:
		if len(n.Formula.Parts) > 0 {
			n.Formula.Parts[r.Intn(len(n.Formula.Parts))].N = r.Intn(12) - 1
		}
	}
}

func TestValidGraphAfterOneChange(t *testing.T) {
	valid, invalid := 0, 0
	graphTries(func(r *rand.Rand, g impl.Graph, list []int) {
		if len(g.Nodes) == 0 {
			return
		}
		changeNode(r, &g.Nodes[r.Intn(len(g.Nodes))])
		if impl.ValidGraph(g) != isValidGraph(g) {
			t.Errorf("ValidGraph(%v) = %v", g, impl.ValidGraph(g))
		}
		if isValidGraph(g) {
			valid++
		} else {
			invalid++
		}
	})
	if valid < 200 || invalid < 200 {
		t.Errorf("%d valid and %d invalid graphs", valid, invalid)
	}
}

// checkNothing checks that all functions of a graph and cells return what they return for arguments that are not valid.
func checkNothing(t *testing.T, g impl.Graph, list []int) {
	if impl.ValidCells(g, list) {
		t.Errorf("ValidCells(%v, %v)", g, list)
	}
	if len(impl.MeaningOf(g, list)) != 0 || len(impl.DepsOf(g, list)) != 0 {
		t.Errorf("the meaning of %v with %v", g, list)
	}
	good := evenCells(g, 0)
	if len(impl.ChangedBy(g, list, good)) != 0 || len(impl.ChangedBy(g, good, list)) != 0 || len(impl.ChangedBy(g, list, list)) != 0 {
		t.Errorf("ChangedBy(%v) with %v", g, list)
	}
	for n := range len(g.Nodes) + 1 {
		if out, ok := impl.SetCell(g, list, n, 1); ok || len(out) != 0 {
			t.Errorf("SetCell(%v, %v, %d) = %v, %v", g, list, n, out, ok)
		}
	}
}

func TestInvalidGraphs(t *testing.T) {
	for _, g := range invalidGraphs() {
		checkNothing(t, g, evenCells(g, 0))
		if len(impl.HeightsOf(g)) != 0 || len(impl.WatchedOf(g)) != 0 {
			t.Errorf("nodes of %v", g)
		}
		for n := range g.Nodes {
			if len(impl.UsersOf(g, n)) != 0 || len(impl.ReachOf(g, n)) != 0 || len(impl.NeedOf(g, n)) != 0 {
				t.Errorf("ways of %v", g)
			}
		}
		if out, ok := impl.AddNode(g, cell()); ok || len(out.Nodes) != 0 {
			t.Errorf("AddNode(%v) = %v, %v", g, out, ok)
		}
		if out := impl.FoldGraph(g); len(out.Nodes) != 0 {
			t.Errorf("FoldGraph(%v) = %v", g, out)
		}
	}
}

func TestValidCells(t *testing.T) {
	g := switched()
	for _, list := range [][]int{{0, 0, 0, 0}, {999, 0, 0, 0}, {0, 999, 0, 0}, {1, 2, 0, 0}} {
		if !impl.ValidCells(g, list) {
			t.Errorf("not valid: %v", list)
		}
	}
	for _, list := range [][]int{
		nil, {1}, {1, 2}, {1, 2, 0}, {1, 2, 0, 0, 0},
		{1000, 2, 0, 0}, {1, 1000, 0, 0}, {-1, 2, 0, 0}, {1, math.MinInt, 0, 0}, {math.MaxInt, 2, 0, 0},
		{1, 2, 1, 0}, {1, 2, 0, 1}, {1, 2, 5, 0}, {1, 2, -1, 0}, {1, 2, 0, 1000},
	} {
		checkNothing(t, g, list)
	}
	if !impl.ValidCells(impl.Graph{}, nil) || !impl.ValidCells(impl.Graph{}, []int{}) || impl.ValidCells(impl.Graph{}, []int{0}) {
		t.Error("cells of no nodes")
	}
	most := graph(cells(impl.MaxNodes)...)
	if !impl.ValidCells(most, evenCells(most, 999)) || impl.ValidCells(most, make([]int, 9)) || impl.ValidCells(most, make([]int, 11)) {
		t.Error("cells of MaxNodes nodes")
	}
	checkNothing(t, impl.Graph{}, []int{0})
	checkNothing(t, most, make([]int, 11))
}

func TestNodesThatAreNotThere(t *testing.T) {
	for _, g := range validGraphs() {
		list := evenCells(g, 1)
		for _, n := range []int{-1, len(g.Nodes), len(g.Nodes) + 1, impl.MaxNodes, math.MaxInt, math.MinInt} {
			if len(impl.UsersOf(g, n)) != 0 || len(impl.ReachOf(g, n)) != 0 || len(impl.NeedOf(g, n)) != 0 {
				t.Errorf("the node %d of %v", n, g)
			}
			if out, ok := impl.SetCell(g, list, n, 1); ok || len(out) != 0 {
				t.Errorf("SetCell(%v, %v, %d) = %v, %v", g, list, n, out, ok)
			}
		}
	}
}

func TestMeanings(t *testing.T) {
	for _, c := range []struct {
		g      impl.Graph
		list   []int
		values []int
		deps   [][]int
	}{
		{impl.Graph{}, nil, nil, nil},
		{graph(cell()), []int{999}, []int{999}, [][]int{nil}},
		{diamond(), []int{5, 0, 0, 0, 0}, []int{5, 6, 10, 16, 16}, [][]int{nil, {0}, {0}, {1, 2}, {3}}},
		{diamond(), []int{999, 0, 0, 0, 0}, []int{999, 0, 998, 998, 998}, [][]int{nil, {0}, {0}, {1, 2}, {3}}},
		{switched(), []int{0, 5, 0, 0}, []int{0, 5, 8, 7}, [][]int{nil, nil, {1}, {0}}},
		{switched(), []int{2, 5, 0, 0}, []int{2, 5, 8, 8}, [][]int{nil, nil, {1}, {0, 2}}},
		{loose(), []int{3, 0, 0, 6, 0, 9, 0, 0, 0}, []int{3, 4, 0, 6, 12, 9, 130, 136, 136}, [][]int{nil, nil, {0}, nil, {3}, nil, nil, {3, 6}, {7}}},
		{graph(derived(num(4)), effect(read(0))), []int{0, 0}, []int{4, 4}, [][]int{nil, {0}}},
		{ladder(), []int{995, 0, 0, 0, 0, 0, 0, 0, 0, 0}, []int{995, 996, 997, 998, 999, 0, 1, 2, 3, 4}, [][]int{nil, {0}, {1}, {2}, {3}, {4}, {5}, {6}, {7}, {8}}},
	} {
		if values := impl.MeaningOf(c.g, c.list); !slices.Equal(values, c.values) {
			t.Errorf("MeaningOf(%v, %v) = %v; want %v", c.g, c.list, values, c.values)
		}
		if deps := impl.DepsOf(c.g, c.list); !sameLists(deps, c.deps) {
			t.Errorf("DepsOf(%v, %v) = %v; want %v", c.g, c.list, deps, c.deps)
		}
	}
}

func TestHeightsAndWatchedNodes(t *testing.T) {
	for _, c := range []struct {
		g       impl.Graph
		heights []int
		watched []int
	}{
		{impl.Graph{}, nil, nil},
		{graph(cell()), []int{0}, nil},
		{graph(effect(num(1))), []int{0}, []int{0}},
		{graph(derived(num(1))), []int{0}, nil},
		{diamond(), []int{0, 1, 1, 2, 3}, []int{0, 1, 2, 3, 4}},
		{switched(), []int{0, 0, 1, 2}, []int{0, 1, 2, 3}},
		{loose(), []int{0, 0, 1, 0, 1, 0, 0, 1, 2}, []int{1, 3, 4, 6, 7, 8}},
		{ladder(), []int{0, 1, 2, 3, 4, 5, 6, 7, 8, 9}, nil},
		// A node counts where it may be read, also if it never is.
		{graph(cell(), derived(read(0)), effect(num(0), read(1), num(5), when(0, 1, 2))), []int{0, 1, 2}, []int{0, 1, 2}},
		{graph(cell(), derived(read(0)), effect(read(0), read(1), op(impl.PaAdd, 0, 1)), effect(read(0))), []int{0, 1, 2, 1}, []int{0, 1, 2, 3}},
	} {
		if heights := impl.HeightsOf(c.g); !slices.Equal(heights, c.heights) {
			t.Errorf("HeightsOf(%v) = %v; want %v", c.g, heights, c.heights)
		}
		if watched := impl.WatchedOf(c.g); !slices.Equal(watched, c.watched) {
			t.Errorf("WatchedOf(%v) = %v; want %v", c.g, watched, c.watched)
		}
	}
}

func TestWays(t *testing.T) {
	for _, c := range []struct {
		g     impl.Graph
		n     int
		users []int
		reach []int
		need  []int
	}{
		{diamond(), 0, []int{1, 2}, []int{0, 1, 2, 3, 4}, []int{0}},
		{diamond(), 1, []int{3}, []int{1, 3, 4}, []int{0, 1}},
		{diamond(), 3, []int{4}, []int{3, 4}, []int{0, 1, 2, 3}},
		{diamond(), 4, nil, []int{4}, []int{0, 1, 2, 3, 4}},
		// The effect may read the node 2, also where it does not.
		{switched(), 2, []int{3}, []int{2, 3}, []int{1, 2}},
		{switched(), 0, []int{3}, []int{0, 3}, []int{0}},
		{switched(), 3, nil, []int{3}, []int{0, 1, 2, 3}},
		// An effect that nobody reads, with and without reads of its own.
		{loose(), 1, nil, []int{1}, []int{1}},
		{loose(), 4, nil, []int{4}, []int{3, 4}},
		// A cell that is read by nobody, and a node without reads.
		{loose(), 5, nil, []int{5}, []int{5}},
		{loose(), 6, []int{7}, []int{6, 7, 8}, []int{6}},
		{loose(), 3, []int{4, 7}, []int{3, 4, 7, 8}, []int{3}},
		{loose(), 8, nil, []int{8}, []int{3, 6, 7, 8}},
		{ladder(), 0, []int{1}, []int{0, 1, 2, 3, 4, 5, 6, 7, 8, 9}, []int{0}},
		{ladder(), 4, []int{5}, []int{4, 5, 6, 7, 8, 9}, []int{0, 1, 2, 3, 4}},
		{graph(cell()), 0, nil, []int{0}, []int{0}},
	} {
		users, reach, need := impl.UsersOf(c.g, c.n), impl.ReachOf(c.g, c.n), impl.NeedOf(c.g, c.n)
		if !slices.Equal(users, c.users) || !slices.Equal(reach, c.reach) || !slices.Equal(need, c.need) {
			t.Errorf("the node %d of %v: %v, %v, %v; want %v, %v, %v", c.n, c.g, users, reach, need, c.users, c.reach, c.need)
		}
	}
}

func TestChangedBy(t *testing.T) {
	half := graph(cell(), derived(read(0), num(50), op(impl.PaLess, 0, 1)), effect(read(1)), effect(read(0)))
	for _, c := range []struct {
		g    impl.Graph
		a, b []int
		want []int
	}{
		{impl.Graph{}, nil, nil, nil},
		{diamond(), []int{5, 0, 0, 0, 0}, []int{5, 0, 0, 0, 0}, nil},
		{diamond(), []int{5, 0, 0, 0, 0}, []int{6, 0, 0, 0, 0}, []int{0, 1, 2, 3, 4}},
		{diamond(), []int{5, 0, 0, 0, 0}, []int{505, 0, 0, 0, 0}, []int{0, 1, 3, 4}},
		{switched(), []int{0, 5, 0, 0}, []int{0, 6, 0, 0}, []int{1, 2}},
		{switched(), []int{0, 5, 0, 0}, []int{1, 5, 0, 0}, []int{0, 3}},
		{switched(), []int{0, 4, 0, 0}, []int{1, 4, 0, 0}, []int{0}},
		{half, []int{3, 0, 0, 0}, []int{49, 0, 0, 0}, []int{0, 3}},
		{half, []int{49, 0, 0, 0}, []int{50, 0, 0, 0}, []int{0, 1, 2, 3}},
	} {
		if nodes := impl.ChangedBy(c.g, c.a, c.b); !slices.Equal(nodes, c.want) {
			t.Errorf("ChangedBy(%v, %v, %v) = %v; want %v", c.g, c.a, c.b, nodes, c.want)
		}
	}
}

func TestSetCell(t *testing.T) {
	list := []int{5, 6, 0, 0}
	for _, c := range []struct {
		n, value int
		want     []int
	}{
		{0, 0, []int{0, 6, 0, 0}},
		{0, 5, []int{5, 6, 0, 0}},
		{0, 999, []int{999, 6, 0, 0}},
		{1, 9, []int{5, 9, 0, 0}},
		{0, 1000, nil},
		{0, -1, nil},
		{0, math.MaxInt, nil},
		{1, math.MinInt, nil},
		{2, 9, nil},
		{2, 0, nil},
		{3, 9, nil},
		{3, 0, nil},
		{4, 9, nil},
		{-1, 9, nil},
	} {
		out, ok := impl.SetCell(switched(), list, c.n, c.value)
		if !slices.Equal(out, c.want) || ok != (c.want != nil) {
			t.Errorf("SetCell(%d, %d) = %v, %v; want %v", c.n, c.value, out, ok, c.want)
		}
	}
}

func TestAddNode(t *testing.T) {
	g := switched()
	for _, n := range []impl.Node{cell(), derived(num(3)), effect(num(3)), derived(read(0)), effect(read(2), read(1), op(impl.PaSub, 1, 0))} {
		out, ok := impl.AddNode(g, n)
		if !ok || !sameGraph(out, graph(append(slices.Clone(g.Nodes), n)...)) {
			t.Errorf("AddNode(%v) = %v, %v", n, out, ok)
		}
	}
	for _, n := range []impl.Node{
		{Kind: -1}, {Kind: 3}, {Kind: 3, Formula: formula(num(1))}, {Kind: impl.NdCell, Formula: formula(num(1))},
		derived(), effect(), derived(num(100)), derived(num(1), num(2)),
		derived(read(3)), effect(read(3)), derived(read(4)), effect(read(9)), derived(read(10)),
		derived(num(1), read(0), read(3), when(0, 1, 2)),
	} {
		if out, ok := impl.AddNode(g, n); ok || len(out.Nodes) != 0 {
			t.Errorf("AddNode(%v) = %v, %v", n, out, ok)
		}
	}
	if out, ok := impl.AddNode(impl.Graph{}, cell()); !ok || !sameGraph(out, graph(cell())) {
		t.Errorf("AddNode to no nodes = %v, %v", out, ok)
	}
	if out, ok := impl.AddNode(graph(cells(9)...), effect(read(8))); !ok || len(out.Nodes) != 10 {
		t.Errorf("AddNode to 9 nodes = %v, %v", out, ok)
	}
	if out, ok := impl.AddNode(ladder(), cell()); ok || len(out.Nodes) != 0 {
		t.Errorf("AddNode to 10 nodes = %v, %v", out, ok)
	}
}

func TestFoldGraph(t *testing.T) {
	for _, c := range []struct{ g, want impl.Graph }{
		{impl.Graph{}, impl.Graph{}},
		{graph(cells(3)...), graph(cells(3)...)},
		{
			graph(derived(num(1), num(2), op(impl.PaAdd, 0, 1)), cell(), effect(num(4), num(5), op(impl.PaMul, 0, 1))),
			graph(derived(num(3)), cell(), effect(num(20))),
		},
		// Formulas are put in order also where nothing is folded.
		{
			graph(cell(), derived(num(1), read(0), op(impl.PaSub, 1, 0))),
			graph(cell(), derived(read(0), num(1), op(impl.PaSub, 0, 1))),
		},
		// A node that is always one number is read all the same.
		{
			graph(derived(num(2)), derived(read(0), num(1), op(impl.PaAdd, 0, 1))),
			graph(derived(num(2)), derived(read(0), num(1), op(impl.PaAdd, 0, 1))),
		},
		{
			graph(cell(), cell(), effect(num(0), read(0), read(1), when(0, 1, 2))),
			graph(cell(), cell(), effect(read(1))),
		},
	} {
		if out := impl.FoldGraph(c.g); !sameGraph(out, c.want) {
			t.Errorf("FoldGraph(%v) = %v; want %v", c.g, out, c.want)
		}
	}
}
