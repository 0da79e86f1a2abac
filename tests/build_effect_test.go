package tests

import (
	"math/rand"
	"slices"

	"loop.example/signalgraph/impl"
)

var (
	begin = impl.Act{Kind: impl.AcBegin}
	end   = impl.Act{Kind: impl.AcEnd}
)

// put returns an act that writes a cell.
func put(n int, value int) impl.Act {
	return impl.Act{Kind: impl.AcWrite, Node: n, Value: value}
}

// stop returns an act that stops an effect.
func stop(n int) impl.Act {
	return impl.Act{Kind: impl.AcStop, Node: n}
}

// acts returns a list of acts.
func acts(list ...impl.Act) []impl.Act {
	return list
}

// shown returns what is shown, told by nodes and their values in turn.
func shown(list ...int) []impl.Show {
	var out []impl.Show
	for i := 0; i+1 < len(list); i += 2 {
		out = append(out, impl.Show{Node: list[i], Value: list[i+1]})
	}
	return out
}

// effectsOf returns the nodes of a graph that are effects, ascending.
func effectsOf(g impl.Graph) []int {
	return nodesThat(g, func(n int) bool { return g.Nodes[n].Kind == impl.NdEffect })
}

// countOf returns how many acts of a session have one of some kinds.
func countOf(list []impl.Act, kinds ...int) int {
	count := 0
	for _, a := range list {
		if slices.Contains(kinds, a.Kind) {
			count++
		}
	}
	return count
}

// without returns a session without its acts of some kinds.
func without(list []impl.Act, kinds ...int) []impl.Act {
	return slices.DeleteFunc(slices.Clone(list), func(a impl.Act) bool { return slices.Contains(kinds, a.Kind) })
}

// depthsOf returns how many batches are open behind each act.
func depthsOf(list []impl.Act) []int {
	depth := 0
	var depths []int
	for _, a := range list {
		switch {
		case a.Kind == impl.AcBegin:
			depth++
		case a.Kind == impl.AcEnd && depth > 0:
			depth--
		}
		depths = append(depths, depth)
	}
	return depths
}

// doneIn returns, for each moment at which acts are done, all acts up to it.
func doneIn(list []impl.Act) [][]impl.Act {
	depths := append([]int{0}, depthsOf(list)...)
	var done [][]impl.Act
	for i, a := range list {
		isLastEnd := a.Kind == impl.AcEnd && depths[i] == 1
		isLoneWrite := a.Kind == impl.AcWrite && depths[i] == 0
		if isLastEnd || isLoneWrite {
			done = append(done, list[:i+1])
		}
	}
	return done
}

// openIn returns how many batches are open at the end.
func openIn(list []impl.Act) int {
	depths := append([]int{0}, depthsOf(list)...)
	return depths[len(list)]
}

// cellsBy returns cells with the last value that acts give each one.
func cellsBy(list []int, done []impl.Act) []int {
	out := slices.Clone(list)
	for n := range out {
		for _, a := range slices.Backward(done) {
			if a.Kind == impl.AcWrite && a.Node == n {
				out[n] = a.Value
				break
			}
		}
	}
	return out
}

// play is a session of a graph that begins with cells.
type play struct {
	g    impl.Graph
	list []int
	acts []impl.Act
}

// outcome is all that there is to know about a session.
type outcome struct {
	shown   []impl.Show
	cells   []int
	eager   int
	lazy    int
	flushes int
	open    int
}

// outcomeOf returns what a session leads to, told by the moments at which acts are done and by the models of both machines.
func outcomeOf(p play) outcome {
	others := nodesThat(p.g, func(n int) bool { return p.g.Nodes[n].Kind != impl.NdCell })
	lazy, ran := wantedRead(p.g, startedState(p.g, p.list), effectsOf(p.g))
	out := outcome{cells: p.list, eager: len(others), lazy: len(ran), open: openIn(p.acts)}
	values, _ := meant(p.g, p.list)
	for _, n := range effectsOf(p.g) {
		out.shown = append(out.shown, impl.Show{Node: n, Value: values[n]})
	}
	for _, done := range doneIn(p.acts) {
		w := write{g: p.g, list: out.cells, nodes: cellsOfGraph(p.g)}
		out.cells = cellsBy(p.list, done)
		for _, n := range w.nodes {
			w.values = append(w.values, out.cells[n])
			lazy = wantedWrite(lazy, n, out.cells[n])
		}
		live := slices.DeleteFunc(effectsOf(p.g), func(n int) bool { return slices.Contains(done, stop(n)) })
		values, _ := meant(p.g, out.cells)
		for _, n := range w.eagerRuns() {
			out.eager++
			if slices.Contains(live, n) {
				out.shown = append(out.shown, impl.Show{Node: n, Value: values[n]})
			}
		}
		lazy, ran = wantedRead(p.g, lazy, live)
		out.lazy += len(ran)
		out.flushes++
	}
	return out
}

// randomAct returns an act of a kind, or of another one if the graph has no node for it.
func randomAct(r *rand.Rand, p play, kind int) impl.Act {
	all, effects := cellsOfGraph(p.g), effectsOf(p.g)
	switch {
	case kind == impl.AcWrite && len(all) > 0:
		n := all[r.Intn(len(all))]
		now := cellsBy(p.list, p.acts)[n]
		return put(n, []int{p.list[n], now, 0, 1, r.Intn(impl.Modulus)}[r.Intn(5)])
	case kind == impl.AcStop && len(effects) > 0:
		return stop(effects[r.Intn(len(effects))])
	case kind == impl.AcBegin:
		return begin
	}
	return end
}

// randomPlay returns a session of a graph, mostly a long one.
func randomPlay(r *rand.Rand, g impl.Graph) play {
	p := play{g: g, list: randomCells(r, g)}
	kinds := [][]int{
		{impl.AcWrite},
		{impl.AcWrite, impl.AcWrite, impl.AcWrite, impl.AcWrite, impl.AcWrite, impl.AcStop},
		{impl.AcWrite, impl.AcWrite, impl.AcWrite, impl.AcBegin, impl.AcEnd},
		{impl.AcWrite, impl.AcWrite, impl.AcWrite, impl.AcBegin, impl.AcBegin, impl.AcEnd},
		{impl.AcWrite, impl.AcWrite, impl.AcWrite, impl.AcBegin, impl.AcEnd, impl.AcEnd},
		{impl.AcWrite, impl.AcWrite, impl.AcWrite, impl.AcWrite, impl.AcWrite, impl.AcWrite, impl.AcStop, impl.AcBegin, impl.AcBegin, impl.AcEnd, impl.AcEnd},
		{impl.AcStop, impl.AcBegin, impl.AcEnd},
	}[r.Intn(7)]
	least := []int{0, 0, 0, 10, 20}[r.Intn(5)]
	for range least + r.Intn(impl.MaxActs-least+1) {
		p.acts = append(p.acts, randomAct(r, p, kinds[r.Intn(len(kinds))]))
	}
	return p
}

// watchedGraph returns a valid graph of few cells, with some nodes that read much and some effects behind these.
func watchedGraph(r *rand.Rand) impl.Graph {
	nodes := tangledGraph(r).Nodes[:6]
	for len(nodes) < impl.MaxNodes {
		nodes = append(nodes, impl.Node{Kind: impl.NdEffect, Formula: withReads(randomFormula(r), readable(nodes))})
	}
	return graph(nodes...)
}

// playTries calls a function with sessions of valid graphs, the same ones each time.
func playTries(check func(r *rand.Rand, p play)) {
	r := rand.New(rand.NewSource(8))
	for range 1000 {
		check(r, randomPlay(r, randomGraph(r)))
		check(r, randomPlay(r, tangledGraph(r)))
		check(r, randomPlay(r, watchedGraph(r)))
	}
}
