package tests

import (
	"math/rand"
	"slices"

	"loop.example/signalgraph/impl"
)

// state returns a state of the eager machine, with what each node reads.
func state(values []int, reads ...[]int) impl.Eager {
	return impl.Eager{Values: values, Reads: reads}
}

func sameState(a impl.Eager, b impl.Eager) bool {
	return slices.Equal(a.Values, b.Values) && sameLists(a.Reads, b.Reads)
}

func isNothing(st impl.Eager, ran []int) bool {
	return sameState(st, impl.Eager{}) && len(ran) == 0
}

// meantState returns the state of the eager machine with cells, told by the parts of formulas.
func meantState(g impl.Graph, list []int) impl.Eager {
	values, reads := meant(g, list)
	return state(values, reads...)
}

// write is what happens to the eager machine of a graph: its cells are list, and then nodes get values.
type write struct {
	g      impl.Graph
	list   []int
	nodes  []int
	values []int
}

// after returns the cells that were written.
func (w write) after() []int {
	out := slices.Clone(w.list)
	for i, n := range w.nodes {
		out[n] = w.values[i]
	}
	return out
}

// eagerRuns returns the nodes that must run for a write: those that read a node before whose value is another one after.
func (w write) eagerRuns() []int {
	before := meantState(w.g, w.list)
	after := meantState(w.g, w.after())
	return nodesThat(w.g, func(n int) bool {
		return slices.ContainsFunc(before.Reads[n], func(m int) bool { return before.Values[m] != after.Values[m] })
	})
}

// hastyRuns returns the state and the runs of the hasty machine, told without a recursion: by the walks over nodes that are not done.
func hastyRuns(g impl.Graph, list []int, n int, value int) (impl.Eager, []int) {
	st := meantState(g, list)
	var ran []int
	type walk struct{ changed, next int }
	var walks []walk
	if st.Values[n] != value {
		walks = append(walks, walk{changed: n})
	}
	st.Values[n] = value
	for len(walks) > 0 {
		last := &walks[len(walks)-1]
		if last.next == len(g.Nodes) {
			walks = walks[:len(walks)-1]
			continue
		}
		user := last.next
		last.next++
		if !slices.Contains(st.Reads[user], last.changed) {
			continue
		}
		ran = append(ran, user)
		parts := g.Nodes[user].Formula.Parts
		x, reads := meaning(parts, len(parts)-1, st.Values)
		st.Reads[user] = firsts(reads)
		if x != st.Values[user] {
			walks = append(walks, walk{changed: user})
		}
		st.Values[user] = x
	}
	return st, ran
}

// tangledGraph returns a valid graph of few cells, with many nodes that read much.
func tangledGraph(r *rand.Rand) impl.Graph {
	nodes := cells(1 + r.Intn(3))
	for len(nodes) < impl.MaxNodes {
		f := randomFormula(r)
		for len(f.Parts) < impl.MaxParts/2 {
			f = randomFormula(r)
		}
		kind := []int{impl.NdDerived, impl.NdDerived, impl.NdDerived, impl.NdDerived, impl.NdEffect}[r.Intn(5)]
		nodes = append(nodes, impl.Node{Kind: kind, Formula: withReads(f, readable(nodes))})
	}
	return graph(nodes...)
}

// cellsOfGraph returns the nodes of a graph that are cells, ascending.
func cellsOfGraph(g impl.Graph) []int {
	return nodesThat(g, func(n int) bool { return g.Nodes[n].Kind == impl.NdCell })
}

// randomWrite returns a write to some cells, in any order, some of which stay the same.
func randomWrite(r *rand.Rand, g impl.Graph) write {
	w := write{g: g, list: randomCells(r, g)}
	others := otherCells(r, g, w.list)
	all := cellsOfGraph(g)
	r.Shuffle(len(all), func(i, k int) { all[i], all[k] = all[k], all[i] })
	if len(all) > 0 && r.Intn(6) > 0 {
		all = all[:1+r.Intn(len(all))]
	} else {
		all = nil
	}
	for _, n := range all {
		w.nodes = append(w.nodes, n)
		w.values = append(w.values, []int{w.list[n], others[n], r.Intn(2), r.Intn(impl.Modulus)}[r.Intn(4)])
	}
	return w
}

// writeTries calls a function with writes to valid graphs, the same ones each time.
func writeTries(check func(r *rand.Rand, w write)) {
	r := rand.New(rand.NewSource(3))
	for range 1500 {
		check(r, randomWrite(r, randomGraph(r)))
		check(r, randomWrite(r, tangledGraph(r)))
	}
}

// hastyTries calls a function with writes of one cell each, the same ones each time.
func hastyTries(check func(r *rand.Rand, w write)) {
	writeTries(func(r *rand.Rand, w write) {
		for _, n := range cellsOfGraph(w.g) {
			one := w
			one.nodes = []int{n}
			one.values = []int{[]int{w.list[n], 0, 1, r.Intn(impl.Modulus)}[r.Intn(4)]}
			check(r, one)
		}
	})
}
