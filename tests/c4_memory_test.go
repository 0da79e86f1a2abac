package tests

import (
	"math/rand"
	"slices"
	"testing"

	"loop.example/signalgraph/impl"
)

// roomyLazy returns a state of new memory, with values, reads and colours to spare.
func roomyLazy(st impl.Lazy) impl.Lazy {
	kept := roomyState(state(st.Values, st.Reads...))
	return impl.Lazy{Values: kept.Values, Reads: kept.Reads, Colours: roomyList(st.Colours)}
}

// bareLazy returns a state with what it has to spare, as a copy.
func bareLazy(st impl.Lazy) impl.Lazy {
	kept := bareState(state(st.Values, st.Reads...))
	return impl.Lazy{Values: kept.Values, Reads: kept.Reads, Colours: slices.Clone(st.Colours[:cap(st.Colours)])}
}

// listsOfLazy returns the lists of numbers of a state, and another one.
func listsOfLazy(st impl.Lazy, ran []int) [][]int {
	return append([][]int{st.Values, st.Colours, ran}, st.Reads...)
}

// lazyArguments are what the functions of the lazy machine are called with.
type lazyArguments struct {
	g     impl.Graph
	st    impl.Lazy
	list  []int
	nodes []int
	value int
}

func roomyLazyArguments(r *rand.Rand, g impl.Graph, st impl.Lazy) lazyArguments {
	return lazyArguments{roomyGraph(g), roomyLazy(st), roomyList(cellsIn(g, st.Values)), roomyList(randomNodes(r, g)), r.Intn(impl.Modulus)}
}

func (x lazyArguments) copied() lazyArguments {
	return lazyArguments{bareGraph(x.g), bareLazy(x.st), slices.Clone(x.list[:cap(x.list)]), slices.Clone(x.nodes[:cap(x.nodes)]), x.value}
}

func (x lazyArguments) same(y lazyArguments) bool {
	return sameGraph(x.g, y.g) && sameLazy(x.st, y.st) && slices.Equal(x.list, y.list) && slices.Equal(x.nodes, y.nodes)
}

// spoilLazy writes over all memory of a state.
func spoilLazy(st impl.Lazy) {
	for _, list := range listsOfLazy(st, nil) {
		spoil(list)
	}
	reads := st.Reads[:cap(st.Reads)]
	for i := range reads {
		reads[i] = []int{-9}
	}
}

// spoilLazyResults calls all functions of the lazy machine and writes over what they return.
func spoilLazyResults(x lazyArguments) {
	impl.ValidLazy(x.g, x.st)
	spoilLazy(impl.StartLazy(x.g, x.list))
	spoil(impl.StaleOf(x.g, x.st))
	spoil(impl.LazyCells(x.g, x.st))
	settled, ran := impl.SettleLazy(x.g, x.st)
	spoilLazy(settled)
	spoil(ran)
	all, some := impl.ReadAll(x.g, x.st, x.nodes)
	spoilLazy(all)
	spoil(some)
	for n := range x.g.Nodes {
		written, _ := impl.WriteLazy(x.g, x.st, n, x.value)
		spoilLazy(written)
		out, _, own := impl.ReadLazy(x.g, x.st, n)
		spoilLazy(out)
		spoil(own)
		forgotten, _ := impl.ForgetNode(x.g, x.st, n)
		spoilLazy(forgotten)
	}
}

func checkLazyLeftAlone(t *testing.T, x lazyArguments) {
	t.Helper()
	before := x.copied()
	spoilLazyResults(x)
	if !before.same(x.copied()) {
		t.Fatalf("changed: %v is %v", before, x.copied())
	}
}

func TestLazyArgumentsAreLeftAlone(t *testing.T) {
	lazyTries(func(r *rand.Rand, g impl.Graph, st impl.Lazy) {
		checkLazyLeftAlone(t, roomyLazyArguments(r, g, st))
	})
}

func TestInvalidLazyArgumentsAreLeftAlone(t *testing.T) {
	for _, g := range invalidGraphs() {
		list := evenCells(g, 0)
		checkLazyLeftAlone(t, lazyArguments{roomyGraph(g), roomyLazy(startedState(g, list)), roomyList(list), roomyList([]int{0}), 1})
	}
	lazyTries(func(r *rand.Rand, g impl.Graph, st impl.Lazy) {
		if len(g.Nodes) > 0 {
			changeLazy(r, &st)
		}
		x := lazyArguments{roomyGraph(g), roomyLazy(st), roomyList(randomCells(r, g)), roomyList(randomNodes(r, g)), impl.Modulus}
		if n := r.Intn(impl.MaxNodes); n < len(x.nodes) {
			x.nodes[n] = -1
		}
		checkLazyLeftAlone(t, x)
	})
}

// checkLazyApart checks that no list of a result shares memory with another one of it.
func checkLazyApart(t *testing.T, result func() (impl.Lazy, []int)) {
	t.Helper()
	checkListsApart(t, func() [][]int { return listsOfLazy(result()) })
}

// checkLazyResultsApart checks this for all results with a graph, a state and nodes.
func checkLazyResultsApart(t *testing.T, g impl.Graph, st impl.Lazy, nodes []int) {
	t.Helper()
	checkLazyApart(t, func() (impl.Lazy, []int) { return impl.StartLazy(g, cellsIn(g, st.Values)), nil })
	checkLazyApart(t, func() (impl.Lazy, []int) { return impl.SettleLazy(g, st) })
	checkLazyApart(t, func() (impl.Lazy, []int) { return impl.ReadAll(g, st, nodes) })
	for _, n := range nodes {
		checkLazyApart(t, func() (impl.Lazy, []int) {
			out, _ := impl.WriteLazy(g, st, n, 7)
			return out, nil
		})
		checkLazyApart(t, func() (impl.Lazy, []int) {
			out, _, ran := impl.ReadLazy(g, st, n)
			return out, ran
		})
		checkLazyApart(t, func() (impl.Lazy, []int) {
			out, _ := impl.ForgetNode(g, st, n)
			return out, nil
		})
	}
}

func TestListsOfLazyStatesShareNothing(t *testing.T) {
	lazyTries(func(r *rand.Rand, g impl.Graph, st impl.Lazy) {
		nodes := randomNodes(r, g)
		checkLazyResultsApart(t, g, st, nodes[:min(2, len(nodes))])
	})
	// Lists that share memory in the argument do not in the result, whether their nodes run or not.
	g := graph(cell(), cell(), derived(read(0)), effect(read(0)), effect(read(1)), effect(read(2)))
	one := []int{0}
	for _, colour := range []int{clean, doubt, dirty} {
		st := lazyState([]int{0, 1, 0, 0, 1, 0}, []int{clean, clean, colour, colour, clean, doubt}, one[:0], one[:0], one, one, []int{1}, []int{2})
		checkLazyResultsApart(t, g, st, []int{3, 5, 0, 1, 2, 4})
	}
}

func TestLazyStatesOfOneMemory(t *testing.T) {
	// The values, the colours, the reads and what is read can be one list.
	g := graph(cell(), effect(read(0)), effect(read(0)))
	all := []int{0, 0, 0}
	shared := lazyState(all, all, all[:0], all[:1], all[:1])
	checkLazyLeftAlone(t, lazyArguments{g, shared, all, all[:1], 4})
	checkLazyResultsApart(t, g, shared, []int{0, 1, 2})
	written, ok := impl.WriteLazy(g, shared, 0, 4)
	if want := lazyState([]int{4, 0, 0}, []int{clean, dirty, dirty}, nil, []int{0}, []int{0}); !ok || !sameLazy(written, want) {
		t.Errorf("WriteLazy = %v, %v; want %v", written, ok, want)
	}
	left, ok := impl.ForgetNode(g, shared, 1)
	if want := lazyState([]int{0, 0, 0}, []int{clean, dirty, clean}, nil, nil, []int{0}); !ok || !sameLazy(left, want) {
		t.Errorf("ForgetNode = %v, %v; want %v", left, ok, want)
	}
	if !slices.Equal(all, []int{0, 0, 0}) {
		t.Errorf("changed: %v", all)
	}
}
