package tests

import (
	"math/rand"
	"slices"

	"loop.example/signalgraph/impl"
)

// lazyState returns a state of the lazy machine, with what each node reads.
func lazyState(values []int, colours []int, reads ...[]int) impl.Lazy {
	return impl.Lazy{Values: values, Reads: reads, Colours: colours}
}

func sameLazy(a impl.Lazy, b impl.Lazy) bool {
	return slices.Equal(a.Values, b.Values) && sameLists(a.Reads, b.Reads) && slices.Equal(a.Colours, b.Colours)
}

func isNoLazy(st impl.Lazy) bool {
	return sameLazy(st, impl.Lazy{})
}

// copiedLazy returns a state of new memory, so that a model can change it.
func copiedLazy(st impl.Lazy) impl.Lazy {
	var reads [][]int
	for _, list := range st.Reads {
		reads = append(reads, slices.Clone(list))
	}
	return lazyState(slices.Clone(st.Values), slices.Clone(st.Colours), reads...)
}

// cleanState returns the state of the lazy machine that has nothing stale, told by the parts of formulas.
func cleanState(g impl.Graph, list []int) impl.Lazy {
	values, reads := meant(g, list)
	return lazyState(values, make([]int, len(values)), reads...)
}

// startedState returns the state of the lazy machine in which nothing ran.
func startedState(g impl.Graph, list []int) impl.Lazy {
	st := lazyState(slices.Clone(list), make([]int, len(list)), make([][]int, len(list))...)
	for n, node := range g.Nodes {
		if node.Kind != impl.NdCell {
			st.Colours[n] = impl.ClDirty
		}
	}
	return st
}

// cellsIn returns the values of cells, and 0 for all other nodes.
func cellsIn(g impl.Graph, values []int) []int {
	list := evenCells(g, 1)
	for n := range list {
		list[n] *= values[n]
	}
	return list
}

// isChanged reports whether one of some nodes has another value in a state than in another one.
func isChanged(a impl.Lazy, b impl.Lazy, nodes []int) bool {
	return slices.ContainsFunc(nodes, func(n int) bool { return a.Values[n] != b.Values[n] })
}

func hasStale(st impl.Lazy, nodes []int) bool {
	return slices.ContainsFunc(nodes, func(n int) bool { return st.Colours[n] != impl.ClClean })
}

// readsLead reports whether a way of reads leads from a node to another one.
func readsLead(st impl.Lazy, from int, to int) bool {
	return slices.ContainsFunc(st.Reads[to], func(ahead int) bool { return ahead == from || readsLead(st, from, ahead) })
}

// wantedWrite returns a state after a cell was written, told by the ways to each node.
func wantedWrite(st impl.Lazy, n int, value int) impl.Lazy {
	out := copiedLazy(st)
	out.Values[n] = value
	for user := range st.Values {
		switch {
		case st.Values[n] == value:
		case slices.Contains(st.Reads[user], n):
			out.Colours[user] = impl.ClDirty
		case readsLead(st, n, user) && st.Colours[user] == impl.ClClean:
			out.Colours[user] = impl.ClCheck
		}
	}
	return out
}

// wantedForget returns a state after a node was forgotten, told by the ways to each node.
func wantedForget(st impl.Lazy, n int) impl.Lazy {
	out := copiedLazy(st)
	out.Reads[n] = nil
	out.Colours[n] = impl.ClDirty
	for user, colour := range st.Colours {
		if readsLead(st, n, user) && colour == impl.ClClean {
			out.Colours[user] = impl.ClCheck
		}
	}
	return out
}

// wantedRead returns a state after nodes were made clean, and the nodes that ran. It knows what the cells mean ahead of all runs, so no value is found on the way.
func wantedRead(g impl.Graph, st impl.Lazy, nodes []int) (impl.Lazy, []int) {
	goal := cleanState(g, cellsIn(g, st.Values))
	out := copiedLazy(st)
	var ran []int
	var visit func(n int)
	visit = func(n int) {
		if out.Colours[n] == impl.ClClean {
			return
		}
		runs := out.Colours[n] == impl.ClDirty
		for _, ahead := range st.Reads[n] {
			if !runs {
				visit(ahead)
				runs = goal.Values[ahead] != st.Values[ahead]
			}
		}
		if runs {
			for _, ahead := range goal.Reads[n] {
				visit(ahead)
			}
			ran = append(ran, n)
			out.Reads[n] = slices.Clone(goal.Reads[n])
		}
		out.Values[n], out.Colours[n] = goal.Values[n], impl.ClClean
	}
	for _, n := range nodes {
		visit(n)
	}
	for n, reads := range st.Reads {
		if out.Colours[n] != impl.ClClean && isChanged(st, out, reads) {
			out.Colours[n] = impl.ClDirty
		}
	}
	return out, ran
}

// readsAtAll returns the nodes that a node may read, ascending.
func readsAtAll(g impl.Graph, n int) []int {
	return nodesThat(g, func(ahead int) bool { return hasRead(g, n, ahead) })
}

// somePart returns some numbers of a list, in any order.
func somePart(r *rand.Rand, list []int) []int {
	r.Shuffle(len(list), func(i, k int) { list[i], list[k] = list[k], list[i] })
	return list[:r.Intn(len(list)+1)]
}

// randomLazy returns any valid state of the lazy machine, also one to which no reads and writes lead.
func randomLazy(r *rand.Rand, g impl.Graph) impl.Lazy {
	values := randomCells(r, g)
	st := lazyState(values, make([]int, len(values)), make([][]int, len(values))...)
	colours := [][]int{
		{impl.ClClean},
		{impl.ClDirty},
		{impl.ClClean, impl.ClClean, impl.ClClean, impl.ClDirty},
		{impl.ClClean, impl.ClCheck, impl.ClCheck, impl.ClDirty},
		{impl.ClCheck, impl.ClDirty},
	}[r.Intn(5)]
	for n, node := range g.Nodes {
		if node.Kind == impl.NdCell {
			continue
		}
		x, reads := meaning(node.Formula.Parts, len(node.Formula.Parts)-1, values)
		reads = firsts(reads)
		colour := colours[r.Intn(len(colours))]
		if colour == impl.ClClean && hasStale(st, reads) {
			colour = impl.ClCheck
		}
		if colour == impl.ClDirty {
			x = []int{x, 0, r.Intn(2), r.Intn(impl.Modulus)}[r.Intn(4)]
			reads = somePart(r, readsAtAll(g, n))
		}
		st.Values[n], st.Reads[n], st.Colours[n] = x, reads, colour
	}
	return st
}

// lazyTries calls a function with valid states of the lazy machine, the same ones each time.
func lazyTries(check func(r *rand.Rand, g impl.Graph, st impl.Lazy)) {
	r := rand.New(rand.NewSource(6))
	for range 1500 {
		g := randomGraph(r)
		check(r, g, randomLazy(r, g))
		g = tangledGraph(r)
		check(r, g, randomLazy(r, g))
	}
}

// lazyReadTries calls a function with valid states and each of their nodes, the same ones each time.
func lazyReadTries(check func(g impl.Graph, st impl.Lazy, n int)) {
	lazyTries(func(r *rand.Rand, g impl.Graph, st impl.Lazy) {
		for n := range g.Nodes {
			check(g, st, n)
		}
	})
}

// lazyWriteTries calls a function with valid states, each of their cells, and a value for it, the same ones each time.
func lazyWriteTries(check func(g impl.Graph, st impl.Lazy, n int, value int)) {
	lazyTries(func(r *rand.Rand, g impl.Graph, st impl.Lazy) {
		for _, n := range cellsOfGraph(g) {
			check(g, st, n, []int{st.Values[n], 0, 1, r.Intn(impl.Modulus)}[r.Intn(4)])
		}
	})
}
