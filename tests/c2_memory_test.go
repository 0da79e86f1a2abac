package tests

import (
	"math/rand"
	"slices"
	"testing"

	"loop.example/signalgraph/impl"
)

// roomyList returns a list with some numbers to spare behind it.
func roomyList(list []int) []int {
	room := append(slices.Clone(list), 71, 72, 73)
	return room[:len(list)]
}

func roomyNode(n impl.Node) impl.Node {
	room := append(slices.Clone(n.Formula.Parts), num(74), num(75))
	n.Formula.Parts = room[:len(n.Formula.Parts)]
	return n
}

// roomyGraph returns a graph of new memory, with nodes and parts to spare.
func roomyGraph(g impl.Graph) impl.Graph {
	var room []impl.Node
	for _, n := range g.Nodes {
		room = append(room, roomyNode(n))
	}
	room = append(room, effect(num(76)), effect(num(77)))
	return impl.Graph{Nodes: room[:len(g.Nodes)]}
}

// bareNode returns a node with what it has to spare, as a copy.
func bareNode(n impl.Node) impl.Node {
	parts := n.Formula.Parts
	return impl.Node{Kind: n.Kind, Formula: formula(slices.Clone(parts[:cap(parts)])...)}
}

// bareGraph returns a graph with what it has to spare, as a copy.
func bareGraph(g impl.Graph) impl.Graph {
	var nodes []impl.Node
	for _, n := range g.Nodes[:cap(g.Nodes)] {
		nodes = append(nodes, bareNode(n))
	}
	return graph(nodes...)
}

// spoil writes over all memory of a list.
func spoil(list []int) {
	for i := range list[:cap(list)] {
		list[:cap(list)][i] = -9
	}
}

func spoilGraph(g impl.Graph) {
	for i := range g.Nodes[:cap(g.Nodes)] {
		n := &g.Nodes[:cap(g.Nodes)][i]
		parts := n.Formula.Parts
		for k := range parts[:cap(parts)] {
			parts[:cap(parts)][k] = num(-9)
		}
		n.Kind = -9
	}
}

// arguments are what the functions of graphs are called with.
type arguments struct {
	g    impl.Graph
	node impl.Node
	a    []int
	b    []int
	n    int
}

func (x arguments) copied() arguments {
	return arguments{bareGraph(x.g), bareNode(x.node), slices.Clone(x.a[:cap(x.a)]), slices.Clone(x.b[:cap(x.b)]), x.n}
}

func (x arguments) same(y arguments) bool {
	return sameGraph(x.g, y.g) && sameNode(x.node, y.node) && slices.Equal(x.a, y.a) && slices.Equal(x.b, y.b)
}

// spoilResults calls all functions of graphs and writes over what they return.
func spoilResults(x arguments) {
	for _, list := range impl.DepsOf(x.g, x.a) {
		spoil(list)
	}
	set, _ := impl.SetCell(x.g, x.a, x.n, 7)
	for _, list := range [][]int{
		set, impl.MeaningOf(x.g, x.a), impl.ChangedBy(x.g, x.a, x.b), impl.HeightsOf(x.g), impl.WatchedOf(x.g),
		impl.UsersOf(x.g, x.n), impl.ReachOf(x.g, x.n), impl.NeedOf(x.g, x.n),
	} {
		spoil(list)
	}
	longer, _ := impl.AddNode(x.g, x.node)
	spoilGraph(longer)
	spoilGraph(impl.FoldGraph(x.g))
	impl.ValidGraph(x.g)
	impl.ValidCells(x.g, x.a)
}

func TestGraphArgumentsAreLeftAlone(t *testing.T) {
	graphTries(func(r *rand.Rand, g impl.Graph, list []int) {
		x := arguments{
			g:    roomyGraph(g),
			node: roomyNode(randomNode(r, g.Nodes)),
			a:    roomyList(list),
			b:    roomyList(otherCells(r, g, list)),
			n:    r.Intn(impl.MaxNodes),
		}
		before := x.copied()
		spoilResults(x)
		if !before.same(x.copied()) {
			t.Fatalf("changed: %v is %v", before, x.copied())
		}
	})
}

func TestInvalidGraphArgumentsAreLeftAlone(t *testing.T) {
	for _, g := range invalidGraphs() {
		x := arguments{g: roomyGraph(g), node: roomyNode(effect(read(0))), a: roomyList(evenCells(g, 0)), b: roomyList(nil)}
		before := x.copied()
		spoilResults(x)
		if !before.same(x.copied()) {
			t.Errorf("changed: %v is %v", before, x.copied())
		}
	}
}

func TestListsOfDepsShareNothing(t *testing.T) {
	graphTries(func(r *rand.Rand, g impl.Graph, list []int) {
		_, want := meant(g, list)
		for i := range g.Nodes {
			deps := impl.DepsOf(g, list)
			spoil(deps[i])
			deps[i] = want[i]
			if !sameLists(deps, want) {
				t.Fatalf("DepsOf(%v, %v) shares memory of the node %d: %v", g, list, i, deps)
			}
		}
	})
}

// checkApart checks that no formula of a graph shares memory with another one of it.
func checkApart(t *testing.T, result func() impl.Graph) {
	want := result()
	for i := range want.Nodes {
		got := result()
		parts := got.Nodes[i].Formula.Parts
		for k := range parts[:cap(parts)] {
			parts[:cap(parts)][k] = num(-9)
		}
		got.Nodes[i] = want.Nodes[i]
		if !sameGraph(got, want) {
			t.Fatalf("shares memory of the node %d: %v; want %v", i, got, want)
		}
	}
}

func TestFormulasOfGraphsShareNothing(t *testing.T) {
	graphTries(func(r *rand.Rand, g impl.Graph, list []int) {
		checkApart(t, func() impl.Graph { return impl.FoldGraph(g) })
		n := randomNode(r, g.Nodes)
		checkApart(t, func() impl.Graph {
			longer, _ := impl.AddNode(g, n)
			return longer
		})
	})
	// Formulas that share memory in the argument do not in the result.
	one := derived(num(1), num(2), op(impl.PaAdd, 0, 1))
	checkApart(t, func() impl.Graph {
		longer, _ := impl.AddNode(graph(one, one), one)
		return longer
	})
	checkApart(t, func() impl.Graph { return impl.FoldGraph(graph(one, one, one)) })
}
