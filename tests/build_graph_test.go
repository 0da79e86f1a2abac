package tests

import (
	"math/rand"
	"slices"

	"loop.example/signalgraph/impl"
)

func cell() impl.Node {
	return impl.Node{Kind: impl.NdCell}
}

func derived(parts ...impl.Part) impl.Node {
	return impl.Node{Kind: impl.NdDerived, Formula: formula(parts...)}
}

func effect(parts ...impl.Part) impl.Node {
	return impl.Node{Kind: impl.NdEffect, Formula: formula(parts...)}
}

func graph(nodes ...impl.Node) impl.Graph {
	return impl.Graph{Nodes: nodes}
}

// cells returns n cells.
func cells(n int) []impl.Node {
	nodes := make([]impl.Node, n)
	for i := range nodes {
		nodes[i] = cell()
	}
	return nodes
}

// withReads returns a formula whose reads are all of some nodes, or numbers where there are no nodes.
func withReads(f impl.Formula, nodes []int) impl.Formula {
	parts := slices.Clone(f.Parts)
	for i, p := range parts {
		if p.Kind == impl.PaRead && len(nodes) == 0 {
			parts[i] = num(p.N)
		} else if p.Kind == impl.PaRead {
			parts[i] = read(nodes[p.N%len(nodes)])
		}
	}
	return formula(parts...)
}

// readable returns the nodes that a node behind some others can read.
func readable(ahead []impl.Node) []int {
	var nodes []int
	for i, n := range ahead {
		if n.Kind != impl.NdEffect {
			nodes = append(nodes, i)
		}
	}
	return nodes
}

// randomNode returns a node that can be behind some others.
func randomNode(r *rand.Rand, ahead []impl.Node) impl.Node {
	kinds := []int{impl.NdCell, impl.NdCell, impl.NdDerived, impl.NdDerived, impl.NdEffect}
	kind := kinds[r.Intn(len(kinds))]
	if kind == impl.NdCell {
		return cell()
	}
	return impl.Node{Kind: kind, Formula: withReads(randomFormula(r), readable(ahead))}
}

// randomGraph returns a valid graph, sometimes one without nodes.
func randomGraph(r *rand.Rand) impl.Graph {
	var nodes []impl.Node
	for range r.Intn(impl.MaxNodes + 1) {
		nodes = append(nodes, randomNode(r, nodes))
	}
	return graph(nodes...)
}

// evenCells returns cells that all have one value.
func evenCells(g impl.Graph, value int) []int {
	list := make([]int, len(g.Nodes))
	for i, n := range g.Nodes {
		if n.Kind == impl.NdCell {
			list[i] = value
		}
	}
	return list
}

// randomCells returns cells for a valid graph, many of them 0 or 1.
func randomCells(r *rand.Rand, g impl.Graph) []int {
	list := evenCells(g, 1)
	for i := range list {
		list[i] *= []int{0, 1, r.Intn(impl.Modulus)}[r.Intn(3)]
	}
	return list
}

// otherCells returns cells of which some are others.
func otherCells(r *rand.Rand, g impl.Graph, list []int) []int {
	out := slices.Clone(list)
	for i, value := range randomCells(r, g) {
		if r.Intn(3) == 0 {
			out[i] = value
		}
	}
	return out
}

// graphTries calls a function with valid graphs and cells, the same ones each time.
func graphTries(check func(r *rand.Rand, g impl.Graph, list []int)) {
	r := rand.New(rand.NewSource(2))
	for range 2000 {
		g := randomGraph(r)
		check(r, g, randomCells(r, g))
	}
}

// nodesThat returns the nodes of a graph for which something holds, ascending.
func nodesThat(g impl.Graph, holds func(n int) bool) []int {
	var nodes []int
	for n := range g.Nodes {
		if holds(n) {
			nodes = append(nodes, n)
		}
	}
	return nodes
}

// hasRead reports whether a node has a part that reads another one.
func hasRead(g impl.Graph, n int, ahead int) bool {
	return slices.Contains(g.Nodes[n].Formula.Parts, read(ahead))
}

// meant returns the values of all nodes and what they read, told by the parts of their formulas.
func meant(g impl.Graph, list []int) ([]int, [][]int) {
	values := slices.Clone(list)
	reads := make([][]int, len(list))
	for i, n := range g.Nodes {
		if n.Kind != impl.NdCell {
			all := []int(nil)
			values[i], all = meaning(n.Formula.Parts, len(n.Formula.Parts)-1, values)
			reads[i] = firsts(all)
		}
	}
	return values, reads
}

// waysIn tells for two nodes whether a way leads from the first one to the second one.
func waysIn(g impl.Graph) [impl.MaxNodes][impl.MaxNodes]bool {
	var ways [impl.MaxNodes][impl.MaxNodes]bool
	for to := range g.Nodes {
		ways[to][to] = true
		for ahead := range to {
			for from := range g.Nodes {
				if hasRead(g, to, ahead) && ways[from][ahead] {
					ways[from][to] = true
				}
			}
		}
	}
	return ways
}

// longestTo returns the length of the longest way to a node.
func longestTo(g impl.Graph, n int) int {
	longest := 0
	for ahead := range n {
		if hasRead(g, n, ahead) {
			longest = max(longest, longestTo(g, ahead)+1)
		}
	}
	return longest
}

func sameNode(a impl.Node, b impl.Node) bool {
	return a.Kind == b.Kind && slices.Equal(a.Formula.Parts, b.Formula.Parts)
}

func sameGraph(a impl.Graph, b impl.Graph) bool {
	return slices.EqualFunc(a.Nodes, b.Nodes, sameNode)
}

func sameLists(a [][]int, b [][]int) bool {
	return slices.EqualFunc(a, b, slices.Equal[[]int])
}
