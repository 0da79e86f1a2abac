package tests

import (
	"math/rand"
	"slices"
	"testing"

	"loop.example/signalgraph/impl"
)

// roomyState returns a state of new memory, with values and reads to spare.
func roomyState(st impl.Eager) impl.Eager {
	var room [][]int
	for _, list := range st.Reads {
		room = append(room, roomyList(list))
	}
	room = append(room, []int{78}, []int{79})
	return impl.Eager{Values: roomyList(st.Values), Reads: room[:len(st.Reads)]}
}

// bareState returns a state with what it has to spare, as a copy.
func bareState(st impl.Eager) impl.Eager {
	var reads [][]int
	for _, list := range st.Reads[:cap(st.Reads)] {
		reads = append(reads, slices.Clone(list[:cap(list)]))
	}
	return state(slices.Clone(st.Values[:cap(st.Values)]), reads...)
}

// listsOf returns the lists of numbers of a state, and another one.
func listsOf(st impl.Eager, ran []int) [][]int {
	return append([][]int{st.Values, ran}, st.Reads...)
}

// eagerArguments are what the functions of the eager machine are called with.
type eagerArguments struct {
	g             impl.Graph
	st            impl.Eager
	a, b          []int
	nodes, values []int
}

func roomyArguments(w write, st impl.Eager) eagerArguments {
	return eagerArguments{roomyGraph(w.g), roomyState(st), roomyList(w.list), roomyList(w.after()), roomyList(w.nodes), roomyList(w.values)}
}

func (x eagerArguments) lists() [][]int {
	return [][]int{x.a, x.b, x.nodes, x.values}
}

func (x eagerArguments) copied() eagerArguments {
	out := eagerArguments{g: bareGraph(x.g), st: bareState(x.st)}
	for i, list := range []*[]int{&out.a, &out.b, &out.nodes, &out.values} {
		given := x.lists()[i]
		*list = slices.Clone(given[:cap(given)])
	}
	return out
}

func (x eagerArguments) same(y eagerArguments) bool {
	return sameGraph(x.g, y.g) && sameState(x.st, y.st) && sameLists(x.lists(), y.lists())
}

// spoilEagerResults calls all functions of the eager machine and writes over what they return.
func spoilEagerResults(x eagerArguments) {
	impl.ValidEager(x.g, x.st)
	impl.RunsOf(x.nodes, 1)
	results := listsOf(impl.StartEager(x.g, x.a), nil)
	results = append(results, listsOf(impl.WriteEager(x.g, x.st, x.nodes, x.values))...)
	for i := range min(len(x.nodes), len(x.values)) {
		results = append(results, listsOf(impl.WriteHasty(x.g, x.st, x.nodes[i], x.values[i]))...)
	}
	results = append(results, impl.MayRun(x.g, x.nodes), impl.MustRun(x.g, x.a, x.b), impl.CellsOf(x.g, x.st))
	for _, list := range results {
		spoil(list)
	}
}

func checkLeftAlone(t *testing.T, x eagerArguments) {
	t.Helper()
	before := x.copied()
	spoilEagerResults(x)
	if !before.same(x.copied()) {
		t.Fatalf("changed: %v is %v", before, x.copied())
	}
}

func TestEagerArgumentsAreLeftAlone(t *testing.T) {
	writeTries(func(r *rand.Rand, w write) {
		checkLeftAlone(t, roomyArguments(w, meantState(w.g, w.list)))
	})
}

func TestInvalidEagerArgumentsAreLeftAlone(t *testing.T) {
	for _, g := range invalidGraphs() {
		list := evenCells(g, 0)
		checkLeftAlone(t, roomyArguments(write{g, list, nil, nil}, state(list, make([][]int, len(list))...)))
	}
	writeTries(func(r *rand.Rand, w write) {
		st := meantState(w.g, w.list)
		if len(w.list) > 0 {
			changeState(r, &st)
		}
		x := roomyArguments(w, st)
		if n := r.Intn(impl.MaxNodes); n < len(x.nodes) {
			x.nodes[n] = -1
			x.values[n] = impl.Modulus
		}
		checkLeftAlone(t, x)
	})
}

// checkListsApart checks that no list of a result shares memory with another one of it.
func checkListsApart(t *testing.T, result func() [][]int) {
	t.Helper()
	want := result()
	for i := range want {
		got := result()
		spoil(got[i])
		got[i] = want[i]
		if !sameLists(got, want) {
			t.Fatalf("shares memory of the list %d: %v; want %v", i, got, want)
		}
	}
}

func TestListsOfStatesShareNothing(t *testing.T) {
	writeTries(func(r *rand.Rand, w write) {
		st := meantState(w.g, w.list)
		checkListsApart(t, func() [][]int { return listsOf(impl.StartEager(w.g, w.list), nil) })
		checkListsApart(t, func() [][]int { return listsOf(impl.WriteEager(w.g, st, w.nodes, w.values)) })
		if len(w.nodes) > 0 {
			checkListsApart(t, func() [][]int { return listsOf(impl.WriteHasty(w.g, st, w.nodes[0], w.values[0])) })
		}
	})
	// Lists that share memory in the argument do not in the result, whether their nodes run or not.
	g := graph(cell(), cell(), effect(read(0)), effect(read(0)), effect(read(1)))
	one := []int{0}
	st := state([]int{0, 1, 0, 0, 1}, one[:0], one[:0], one, one, []int{1})
	for n := range 2 {
		checkListsApart(t, func() [][]int { return listsOf(impl.WriteEager(g, st, []int{n}, []int{9})) })
		checkListsApart(t, func() [][]int { return listsOf(impl.WriteHasty(g, st, n, 9)) })
	}
	// The numbers of a state can be a part of what its nodes read, and of what is written.
	all := []int{0, 0, 0}
	shared := state(all, all[:0], all[:1], all[:1])
	twice := graph(cell(), effect(read(0)), effect(read(0)))
	checkLeftAlone(t, eagerArguments{g: twice, st: shared, a: all, b: all, nodes: all[:1], values: all[:1]})
	out, ran := impl.WriteEager(twice, shared, all[:1], []int{4})
	if !sameState(out, state([]int{4, 4, 4}, nil, []int{0}, []int{0})) || !slices.Equal(ran, []int{1, 2}) || !slices.Equal(all, []int{0, 0, 0}) {
		t.Errorf("WriteEager = %v, %v", out, ran)
	}
}
