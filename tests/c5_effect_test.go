package tests

import (
	"math"
	"slices"
	"testing"

	"loop.example/signalgraph/impl"
)

func TestActs(t *testing.T) {
	if impl.AcWrite != 0 || impl.AcStop != 1 || impl.AcBegin != 2 || impl.AcEnd != 3 || impl.MaxActs != 30 {
		t.Errorf("the acts are %d, %d, %d and %d, at most %d", impl.AcWrite, impl.AcStop, impl.AcBegin, impl.AcEnd, impl.MaxActs)
	}
}

// echo returns two cells, a node that reads both, and three effects: one of each cell, and one of the node.
func echo() impl.Graph {
	return graph(cell(), cell(), derived(read(0), read(1), op(impl.PaAdd, 0, 1)), effect(read(0)), effect(read(1)), effect(read(2)))
}

func TestValidActs(t *testing.T) {
	for _, g := range validGraphs() {
		for _, list := range [][]impl.Act{nil, {}, {begin}, {end}, {begin, end}, {end, begin}, {end, end, begin, begin}, slices.Repeat(acts(begin), 30), slices.Repeat(acts(end), 30)} {
			if !impl.ValidActs(g, list) {
				t.Errorf("not valid: %v of %v", list, g)
			}
		}
	}
	for _, c := range []struct {
		g    impl.Graph
		list []impl.Act
	}{
		{graph(cell()), acts(put(0, 0), put(0, 999), put(0, 0))},
		{graph(effect(num(7))), acts(stop(0), stop(0))},
		{graph(cells(10)...), acts(put(9, 1), put(0, 1))},
		{switched(), acts(put(0, 1), put(1, 999), stop(3), put(0, 0))},
		{switched(), slices.Repeat(acts(put(1, 7)), 30)},
		{switched(), slices.Repeat(acts(stop(3)), 30)},
		{loose(), acts(begin, put(5, 1), stop(8), begin, stop(4), put(3, 2), end, stop(1), put(0, 999))},
	} {
		if !impl.ValidActs(c.g, c.list) {
			t.Errorf("not valid: %v of %v", c.list, c.g)
		}
	}
}

// checkNoSession checks that all functions return what they return for sessions that are not valid.
func checkNoSession(t *testing.T, p play) {
	t.Helper()
	if impl.ValidActs(p.g, p.acts) {
		t.Errorf("ValidActs(%v, %v)", p.g, p.acts)
	}
	if flushes, open := impl.FlushesIn(p.g, p.acts); flushes != -1 || open != -1 {
		t.Errorf("FlushesIn(%v, %v) = %d, %d", p.g, p.acts, flushes, open)
	}
	if batch := impl.BatchAll(p.g, p.acts); len(batch) != 0 {
		t.Errorf("BatchAll(%v, %v) = %v", p.g, p.acts, batch)
	}
	checkNothingShown(t, p)
}

// shownIn returns what a session shows, in each of the three ways.
func shownIn(p play) [][]impl.Show {
	return [][]impl.Show{impl.PlainSession(p.g, p.list, p.acts), impl.EagerSession(p.g, p.list, p.acts), impl.LazySession(p.g, p.list, p.acts)}
}

// checkNothingShown checks that all functions that take cells return what they return for arguments that are not valid.
func checkNothingShown(t *testing.T, p play) {
	t.Helper()
	for _, out := range shownIn(p) {
		if len(out) != 0 {
			t.Errorf("the session %v shows %v", p, out)
		}
	}
	if eager, lazy := impl.RunsIn(p.g, p.list, p.acts); eager != -1 || lazy != -1 {
		t.Errorf("RunsIn(%v) = %d, %d", p, eager, lazy)
	}
	if last := impl.CellsAfter(p.g, p.list, p.acts); len(last) != 0 {
		t.Errorf("CellsAfter(%v) = %v", p, last)
	}
}

func TestInvalidActs(t *testing.T) {
	for _, list := range [][]impl.Act{
		// Kinds that are none.
		{{Kind: -1}}, {{Kind: 4}}, {{Kind: 4, Node: 1, Value: 1}}, {{Kind: math.MaxInt}}, {{Kind: math.MinInt}},
		// Writes of nodes that are no cells, or are not there.
		{put(2, 0)}, {put(2, 8)}, {put(3, 7)}, {put(4, 0)}, {put(-1, 0)}, {put(10, 0)}, {put(math.MaxInt, 0)}, {put(math.MinInt, 0)},
		// Values that are not in range.
		{put(0, -1)}, {put(1, 1000)}, {put(1, math.MaxInt)}, {put(1, math.MinInt)}, {put(2, -1)},
		// Stops of nodes that are no effects, or are not there.
		{stop(0)}, {stop(1)}, {stop(2)}, {stop(4)}, {stop(-1)}, {stop(10)}, {stop(math.MaxInt)}, {stop(math.MinInt)},
		// What a kind does not have.
		{{Kind: impl.AcStop, Node: 3, Value: 1}}, {{Kind: impl.AcStop, Node: 3, Value: -1}}, {{Kind: impl.AcStop, Node: 3, Value: 7}},
		{{Kind: impl.AcBegin, Node: 1}}, {{Kind: impl.AcBegin, Value: 1}}, {{Kind: impl.AcBegin, Node: -1}}, {{Kind: impl.AcBegin, Value: -1}},
		{{Kind: impl.AcEnd, Node: 1}}, {{Kind: impl.AcEnd, Value: 1}}, {{Kind: impl.AcEnd, Node: -1}}, {{Kind: impl.AcEnd, Value: -1}}, {{Kind: impl.AcEnd, Node: 3}},
		// Too many acts.
		slices.Repeat(acts(put(0, 1)), 31), slices.Repeat(acts(stop(3)), 31), slices.Repeat(acts(begin), 31), slices.Repeat(acts(end), 31), slices.Repeat(acts(put(0, 1)), 1000),
	} {
		checkNoSession(t, play{switched(), []int{0, 5, 0, 0}, list})
		checkNoSession(t, play{switched(), nil, list})
		if len(list) == 1 {
			// One act is wrong, and the others are not done, wherever they are.
			checkNoSession(t, play{switched(), []int{0, 5, 0, 0}, slices.Concat(acts(put(0, 1), begin), list, acts(end, put(0, 2)))})
			checkNoSession(t, play{switched(), []int{0, 5, 0, 0}, slices.Concat(acts(stop(3), begin, put(0, 1)), list)})
			checkNoSession(t, play{switched(), []int{0, 5, 0, 0}, slices.Concat(list, acts(put(0, 1)))})
		}
	}
	for _, list := range [][]impl.Act{{put(0, 0)}, {stop(0)}, {begin, put(0, 0), end}} {
		checkNoSession(t, play{impl.Graph{}, nil, list})
	}
	checkNoSession(t, play{graph(cell()), []int{0}, acts(stop(0))})
	checkNoSession(t, play{graph(effect(num(7))), []int{0}, acts(put(0, 7))})
	checkNoSession(t, play{graph(derived(num(7))), []int{0}, acts(put(0, 7))})
	checkNoSession(t, play{graph(derived(num(7))), []int{0}, acts(stop(0))})
}

func TestSessionsOfInvalidGraphs(t *testing.T) {
	for _, g := range invalidGraphs() {
		for _, list := range [][]impl.Act{nil, {begin, end}, {put(0, 1)}, {stop(0)}} {
			checkNoSession(t, play{g, evenCells(g, 0), list})
			checkNoSession(t, play{g, nil, list})
		}
	}
}

func TestSessionsOfInvalidCells(t *testing.T) {
	for _, list := range [][]int{
		nil, {}, {0, 5, 0}, {0, 5, 0, 0, 0}, {1000, 5, 0, 0}, {-1, 5, 0, 0}, {0, math.MaxInt, 0, 0}, {0, math.MinInt, 0, 0}, {0, 5, 8, 0}, {0, 5, 0, 7}, {0, 5, 8, 7},
	} {
		for _, some := range [][]impl.Act{nil, {begin, end}, {put(0, 1)}, {put(0, 1), put(1, 5), stop(3)}} {
			checkNothingShown(t, play{switched(), list, some})
			// What tells nothing about cells is the same.
			if !impl.ValidActs(switched(), some) {
				t.Errorf("not valid: %v", some)
			}
		}
	}
	checkNothingShown(t, play{impl.Graph{}, []int{0}, nil})
	checkNothingShown(t, play{graph(cell()), nil, acts(put(0, 1))})
}

// sessionCase is a session, and all that is wanted of it.
type sessionCase struct {
	play
	want outcome
}

func checkSessions(t *testing.T, cases ...sessionCase) {
	t.Helper()
	for _, c := range cases {
		for _, out := range shownIn(c.play) {
			if !slices.Equal(out, c.want.shown) {
				t.Errorf("the session %v shows %v; want %v", c.play, out, c.want.shown)
			}
		}
		if last := impl.CellsAfter(c.g, c.list, c.acts); !slices.Equal(last, c.want.cells) {
			t.Errorf("CellsAfter(%v) = %v; want %v", c.play, last, c.want.cells)
		}
		if eager, lazy := impl.RunsIn(c.g, c.list, c.acts); eager != c.want.eager || lazy != c.want.lazy {
			t.Errorf("RunsIn(%v) = %d, %d; want %d, %d", c.play, eager, lazy, c.want.eager, c.want.lazy)
		}
		if flushes, open := impl.FlushesIn(c.g, c.acts); flushes != c.want.flushes || open != c.want.open {
			t.Errorf("FlushesIn(%v) = %d, %d; want %d, %d", c.play, flushes, open, c.want.flushes, c.want.open)
		}
	}
}

func TestSessionsWithoutBatches(t *testing.T) {
	seven := graph(effect(num(7)))
	checkSessions(t,
		sessionCase{play{impl.Graph{}, nil, nil}, outcome{}},
		sessionCase{play{graph(cell()), []int{3}, nil}, outcome{nil, []int{3}, 0, 0, 0, 0}},
		sessionCase{play{graph(cell()), []int{3}, acts(put(0, 4), put(0, 5))}, outcome{nil, []int{5}, 0, 0, 2, 0}},
		sessionCase{play{seven, []int{0}, nil}, outcome{shown(0, 7), []int{0}, 1, 1, 0, 0}},
		sessionCase{play{seven, []int{0}, acts(stop(0))}, outcome{shown(0, 7), []int{0}, 1, 1, 0, 0}},
		// All effects show something at the beginning, and no other nodes.
		sessionCase{play{echo(), []int{2, 3, 0, 0, 0, 0}, nil}, outcome{shown(3, 2, 4, 3, 5, 5), []int{2, 3, 0, 0, 0, 0}, 4, 4, 0, 0}},
		sessionCase{play{loose(), []int{3, 0, 0, 6, 0, 9, 0, 0, 0}, nil}, outcome{shown(1, 4, 4, 12, 8, 136), []int{3, 0, 0, 6, 0, 9, 0, 0, 0}, 6, 5, 0, 0}},
		sessionCase{play{ladder(), make([]int, 10), acts(put(0, 1))}, outcome{nil, append([]int{1}, make([]int, 9)...), 18, 0, 1, 0}},
		// What reads a cell that was written shows its value, in order.
		sessionCase{play{echo(), []int{2, 3, 0, 0, 0, 0}, acts(put(0, 4), put(1, 5))}, outcome{shown(3, 2, 4, 3, 5, 5, 3, 4, 5, 7, 4, 5, 5, 9), []int{4, 5, 0, 0, 0, 0}, 10, 10, 2, 0}},
		// The value that is there already: acts are done, but nothing runs.
		sessionCase{play{echo(), []int{2, 3, 0, 0, 0, 0}, acts(put(0, 2), put(1, 3))}, outcome{shown(3, 2, 4, 3, 5, 5), []int{2, 3, 0, 0, 0, 0}, 4, 4, 2, 0}},
		// A cell is written back, but was seen in between.
		sessionCase{play{echo(), []int{2, 3, 0, 0, 0, 0}, acts(put(0, 4), put(0, 2))}, outcome{shown(3, 2, 4, 3, 5, 5, 3, 4, 5, 7, 3, 2, 5, 5), []int{2, 3, 0, 0, 0, 0}, 10, 10, 2, 0}},
		// An effect that has the same value after its run shows it again.
		sessionCase{play{switched(), []int{1, 4, 0, 0}, acts(put(0, 0))}, outcome{shown(3, 7, 3, 7), []int{0, 4, 0, 0}, 3, 3, 1, 0}},
		// A node that stays the same is told to nobody.
		sessionCase{play{capped(), []int{20, 0, 0}, acts(put(0, 30), put(0, 3))}, outcome{shown(2, 10, 2, 3), []int{3, 0, 0}, 5, 5, 2, 0}},
		// What is not read shows nothing, and does not run in the lazy machine.
		sessionCase{play{switched(), []int{0, 5, 0, 0}, acts(put(1, 6), put(1, 7), put(0, 1), put(1, 8), put(0, 2))}, outcome{shown(3, 7, 3, 10, 3, 11, 3, 11), []int{2, 8, 0, 0}, 8, 6, 5, 0}},
		// It need not run at all if it is written back before it is read.
		sessionCase{play{switched(), []int{1, 5, 0, 0}, acts(put(0, 0), put(1, 6), put(1, 5), put(0, 1))}, outcome{shown(3, 8, 3, 7, 3, 8), []int{1, 5, 0, 0}, 6, 5, 4, 0}},
	)
}

func TestSessionsWithBatches(t *testing.T) {
	list := []int{2, 3, 0, 0, 0, 0}
	first := []int{3, 2, 4, 3, 5, 5}
	then := func(more ...int) []impl.Show { return shown(slices.Concat(first, more)...) }
	checkSessions(t,
		// Writes in a batch are done together.
		sessionCase{play{echo(), list, acts(begin, put(0, 4), put(1, 5), end)}, outcome{then(3, 4, 4, 5, 5, 9), []int{4, 5, 0, 0, 0, 0}, 8, 8, 1, 0}},
		sessionCase{play{echo(), list, acts(begin, put(1, 5), put(0, 4), put(1, 6), end)}, outcome{then(3, 4, 4, 6, 5, 10), []int{4, 6, 0, 0, 0, 0}, 8, 8, 1, 0}},
		// The node stays the same, and so does its effect.
		sessionCase{play{echo(), list, acts(begin, put(0, 3), put(1, 2), end)}, outcome{then(3, 3, 4, 2), []int{3, 2, 0, 0, 0, 0}, 7, 7, 1, 0}},
		// Cells that are written back: nothing runs.
		sessionCase{play{echo(), list, acts(begin, put(0, 4), put(0, 2), end)}, outcome{then(), list, 4, 4, 1, 0}},
		sessionCase{play{echo(), list, acts(begin, put(0, 4), put(1, 5), put(0, 2), end)}, outcome{then(4, 5, 5, 7), []int{2, 5, 0, 0, 0, 0}, 7, 7, 1, 0}},
		sessionCase{play{echo(), list, acts(begin, put(0, 4), begin, put(0, 2), end, end)}, outcome{then(), list, 4, 4, 1, 0}},
		sessionCase{play{echo(), list, acts(put(0, 4), begin, put(0, 2), put(0, 4), end)}, outcome{then(3, 4, 5, 7), []int{4, 3, 0, 0, 0, 0}, 7, 7, 2, 0}},
		// Batches without writes.
		sessionCase{play{echo(), list, acts(begin, end)}, outcome{then(), list, 4, 4, 1, 0}},
		sessionCase{play{echo(), list, acts(begin, end, begin, end)}, outcome{then(), list, 4, 4, 2, 0}},
		sessionCase{play{echo(), list, acts(begin, begin, end, end)}, outcome{then(), list, 4, 4, 1, 0}},
		sessionCase{play{impl.Graph{}, nil, acts(begin, end, end, begin)}, outcome{nil, nil, 0, 0, 1, 1}},
		// Only the end of the last batch that is open does what is pending.
		sessionCase{play{echo(), list, acts(begin, put(0, 4), begin, put(1, 5), end, put(0, 6), end)}, outcome{then(3, 6, 4, 5, 5, 11), []int{6, 5, 0, 0, 0, 0}, 8, 8, 1, 0}},
		sessionCase{play{echo(), list, acts(begin, begin, begin, put(0, 4), end, end)}, outcome{then(), list, 4, 4, 0, 1}},
		// A batch that does not end: what is pending is not done.
		sessionCase{play{echo(), list, acts(begin)}, outcome{then(), list, 4, 4, 0, 1}},
		sessionCase{play{echo(), list, acts(begin, put(0, 4), put(1, 5))}, outcome{then(), list, 4, 4, 0, 1}},
		sessionCase{play{echo(), list, acts(put(0, 4), begin, put(0, 6), begin, put(1, 5))}, outcome{then(3, 4, 5, 7), []int{4, 3, 0, 0, 0, 0}, 7, 7, 1, 2}},
		sessionCase{play{echo(), list, slices.Repeat(acts(begin), 30)}, outcome{then(), list, 4, 4, 0, 30}},
		// Ends without a beginning are nothing, and no beginning behind them is theirs.
		sessionCase{play{echo(), list, acts(end)}, outcome{then(), list, 4, 4, 0, 0}},
		sessionCase{play{echo(), list, slices.Repeat(acts(end), 30)}, outcome{then(), list, 4, 4, 0, 0}},
		sessionCase{play{echo(), list, acts(end, put(0, 4), end)}, outcome{then(3, 4, 5, 7), []int{4, 3, 0, 0, 0, 0}, 7, 7, 1, 0}},
		sessionCase{play{echo(), list, acts(end, begin, put(0, 4))}, outcome{then(), list, 4, 4, 0, 1}},
		sessionCase{play{echo(), list, acts(end, end, begin, put(0, 4), end)}, outcome{then(3, 4, 5, 7), []int{4, 3, 0, 0, 0, 0}, 7, 7, 1, 0}},
		sessionCase{play{echo(), list, acts(begin, put(0, 4), end, end, put(1, 5), end)}, outcome{then(3, 4, 5, 7, 4, 5, 5, 9), []int{4, 5, 0, 0, 0, 0}, 10, 10, 2, 0}},
		sessionCase{play{echo(), list, acts(begin, end, end, begin, put(0, 4))}, outcome{then(), list, 4, 4, 1, 1}},
	)
}

func TestStoppedEffects(t *testing.T) {
	list := []int{2, 3, 0, 0, 0, 0}
	first := []int{3, 2, 4, 3, 5, 5}
	then := func(more ...int) []impl.Show { return shown(slices.Concat(first, more)...) }
	checkSessions(t,
		// They show nothing more. The eager machine runs them all the same, and the lazy one only what the others read.
		sessionCase{play{echo(), list, acts(stop(5), put(0, 4))}, outcome{then(3, 4), []int{4, 3, 0, 0, 0, 0}, 7, 5, 1, 0}},
		sessionCase{play{echo(), list, acts(stop(3), put(0, 4))}, outcome{then(5, 7), []int{4, 3, 0, 0, 0, 0}, 7, 6, 1, 0}},
		sessionCase{play{echo(), list, acts(put(0, 4), stop(3), put(0, 6))}, outcome{then(3, 4, 5, 7, 5, 9), []int{6, 3, 0, 0, 0, 0}, 10, 9, 2, 0}},
		sessionCase{play{echo(), list, acts(stop(5), stop(3), stop(4), put(0, 4), put(1, 5))}, outcome{then(), []int{4, 5, 0, 0, 0, 0}, 10, 4, 2, 0}},
		// A stop does nothing but that, and a second one nothing at all.
		sessionCase{play{echo(), list, acts(stop(3))}, outcome{then(), list, 4, 4, 0, 0}},
		sessionCase{play{echo(), list, acts(stop(3), stop(3), put(0, 4), stop(3))}, outcome{then(5, 7), []int{4, 3, 0, 0, 0, 0}, 7, 6, 1, 0}},
		// In a batch an effect is stopped for the writes ahead of it, too.
		sessionCase{play{echo(), list, acts(begin, put(0, 4), stop(3), end)}, outcome{then(5, 7), []int{4, 3, 0, 0, 0, 0}, 7, 6, 1, 0}},
		sessionCase{play{echo(), list, acts(begin, stop(3), put(0, 4), end)}, outcome{then(5, 7), []int{4, 3, 0, 0, 0, 0}, 7, 6, 1, 0}},
		sessionCase{play{echo(), list, acts(begin, put(0, 4), begin, stop(5), end, end, put(0, 6))}, outcome{then(3, 4, 3, 6), []int{6, 3, 0, 0, 0, 0}, 10, 6, 2, 0}},
		sessionCase{play{echo(), list, acts(begin, stop(3), end, put(0, 4))}, outcome{then(5, 7), []int{4, 3, 0, 0, 0, 0}, 7, 6, 2, 0}},
		// It stays stopped when a batch does not end.
		sessionCase{play{echo(), list, acts(begin, put(0, 4), stop(3))}, outcome{then(), list, 4, 4, 0, 1}},
		// What only a stopped effect would read does not run in the lazy machine, whatever is written.
		sessionCase{play{diamond(), []int{5, 0, 0, 0, 0}, acts(stop(4), put(0, 6), put(0, 7))}, outcome{shown(4, 16), []int{7, 0, 0, 0, 0}, 12, 4, 2, 0}},
		sessionCase{play{diamond(), []int{5, 0, 0, 0, 0}, acts(put(0, 6), stop(4), put(0, 7))}, outcome{shown(4, 16, 4, 19), []int{7, 0, 0, 0, 0}, 12, 8, 2, 0}},
	)
}

func TestLongSessions(t *testing.T) {
	var list []impl.Act
	wanted := []int{2, 10}
	for i := range impl.MaxActs {
		list = append(list, put(0, i%2))
		wanted = append(wanted, 2, i%2)
	}
	checkSessions(t,
		sessionCase{play{capped(), []int{999, 0, 0}, list}, outcome{shown(wanted...), []int{1, 0, 0}, 62, 62, 30, 0}},
		sessionCase{play{capped(), []int{999, 0, 0}, slices.Concat(acts(begin), list[:28], acts(end))}, outcome{shown(2, 10, 2, 1), []int{1, 0, 0}, 4, 4, 1, 0}},
	)
}

func TestBatchAll(t *testing.T) {
	for _, c := range []struct {
		g    impl.Graph
		list []impl.Act
		want []impl.Act
	}{
		{impl.Graph{}, nil, acts(begin, end)},
		{impl.Graph{}, acts(end, begin, begin), acts(begin, end)},
		{echo(), acts(put(0, 4)), acts(begin, put(0, 4), end)},
		{echo(), acts(begin, put(0, 4), end), acts(begin, put(0, 4), end)},
		// Writes and stops stay in order, also those that are done twice, that change nothing, or that would not be done.
		{echo(), acts(put(1, 4), stop(5), put(0, 2), put(1, 4), stop(5)), acts(begin, put(1, 4), stop(5), put(0, 2), put(1, 4), stop(5), end)},
		{echo(), acts(put(1, 4), end, begin, put(0, 2), begin, stop(3)), acts(begin, put(1, 4), put(0, 2), stop(3), end)},
		// MaxActs, and one act more.
		{echo(), slices.Repeat(acts(put(0, 4)), 28), slices.Concat(acts(begin), slices.Repeat(acts(put(0, 4)), 28), acts(end))},
		{echo(), slices.Repeat(acts(put(0, 4)), 29), nil},
		{echo(), slices.Repeat(acts(stop(3)), 30), nil},
		{echo(), slices.Concat(slices.Repeat(acts(stop(3)), 28), acts(end, end)), slices.Concat(acts(begin), slices.Repeat(acts(stop(3)), 28), acts(end))},
		{echo(), slices.Concat(slices.Repeat(acts(stop(3)), 29), acts(end)), nil},
		{echo(), slices.Repeat(acts(begin, end), 15), acts(begin, end)},
	} {
		if batch := impl.BatchAll(c.g, c.list); !slices.Equal(batch, c.want) {
			t.Errorf("BatchAll(%v, %v) = %v; want %v", c.g, c.list, batch, c.want)
		}
	}
}
