package tests

import (
	"math/rand"
	"slices"
	"testing"

	"loop.example/signalgraph/impl"
)

// roomyHistory returns a history of new memory, with states and numbers to spare.
func roomyHistory(h impl.History) impl.History {
	var room [][]int
	for _, list := range h.States {
		room = append(room, roomyList(list))
	}
	room = append(room, []int{74}, []int{75}, []int{76})
	return history(h.At, room[:len(h.States)]...)
}

// bareHistory returns a history with what it has to spare, as a copy.
func bareHistory(h impl.History) impl.History {
	var states [][]int
	for _, list := range h.States[:cap(h.States)] {
		states = append(states, slices.Clone(list[:cap(list)]))
	}
	return history(h.At, states...)
}

// spoilHistory writes over all memory of a history.
func spoilHistory(h impl.History) {
	for _, list := range h.States {
		spoil(list)
	}
	states := h.States[:cap(h.States)]
	for i := range states {
		states[i] = []int{-9}
	}
}

// textArguments is what the functions of histories and texts take.
type textArguments struct {
	g     impl.Graph
	h     impl.History
	list  []int
	by    int
	lines []string
}

func roomyTextArguments(g impl.Graph, h impl.History, list []int, by int) textArguments {
	room := []string{"get 0", "set 0 7", "values", "stale", "", "x", "y"}
	return textArguments{roomyGraph(g), roomyHistory(h), roomyList(list), by, room[:5]}
}

func (x textArguments) copied() textArguments {
	return textArguments{bareGraph(x.g), bareHistory(x.h), slices.Clone(x.list[:cap(x.list)]), x.by, slices.Clone(x.lines[:cap(x.lines)])}
}

func (x textArguments) same(y textArguments) bool {
	return sameGraph(x.g, y.g) && sameHistory(x.h, y.h) && slices.Equal(x.list, y.list) && slices.Equal(x.lines, y.lines)
}

// textResults is what the functions of histories and texts return.
type textResults struct {
	histories []impl.History
	lists     [][]int
	g         impl.Graph
	f         impl.Formula
	texts     []string
}

func textResultsOf(x textArguments) textResults {
	created := impl.NewHistory(x.g, x.list)
	committed, _ := impl.CommitCells(x.g, x.h, x.list)
	moved, changed, _ := impl.MoveHistory(x.g, x.h, x.by)
	left, unchanged, _ := impl.MoveHistory(x.g, x.h, 0)
	texts := []string{impl.FormatGraph(x.g, x.list)}
	for _, n := range x.g.Nodes {
		texts = append(texts, impl.FormatFormula(n.Formula))
	}
	parsed, list, _ := impl.ParseGraph(texts[0])
	f, _ := impl.ParseFormula(texts[len(texts)-1])
	lists := [][]int{changed, unchanged, list}
	for n := range x.g.Nodes {
		for _, state := range x.h.States {
			lists = append(lists, impl.WhyChanged(x.g, x.list, state, n))
		}
	}
	impl.ValidHistory(x.g, x.h)
	return textResults{[]impl.History{created, committed, moved, left}, lists, parsed, f, append(texts, impl.RunDesk(texts[0], x.lines))}
}

// copied returns results as a copy without what they have to spare.
func (x textResults) copied() textResults {
	out := textResults{g: graph(), f: formula(slices.Clone(x.f.Parts)...), texts: slices.Clone(x.texts)}
	for _, h := range x.histories {
		states := [][]int(nil)
		for _, list := range h.States {
			states = append(states, slices.Clone(list))
		}
		out.histories = append(out.histories, history(h.At, states...))
	}
	for _, list := range x.lists {
		out.lists = append(out.lists, slices.Clone(list))
	}
	for _, n := range x.g.Nodes {
		out.g.Nodes = append(out.g.Nodes, impl.Node{Kind: n.Kind, Formula: formula(slices.Clone(n.Formula.Parts)...)})
	}
	return out
}

func (x textResults) same(y textResults) bool {
	return slices.EqualFunc(x.histories, y.histories, sameHistory) && sameLists(x.lists, y.lists) && sameGraph(x.g, y.g) && slices.Equal(x.f.Parts, y.f.Parts) && slices.Equal(x.texts, y.texts)
}

// checkTextsLeftAlone writes over all results of the functions of histories and texts, and checks that their arguments, and what they return then, are as before.
func checkTextsLeftAlone(t *testing.T, x textArguments) {
	t.Helper()
	before := x.copied()
	first := textResultsOf(x)
	want := first.copied()
	for _, h := range first.histories {
		spoilHistory(h)
	}
	spoilAll(-9, first.lists...)
	spoilGraph(first.g)
	spoilAll(num(-9), first.f.Parts)
	if after := x.copied(); !before.same(after) {
		t.Fatalf("changed: %v is %v", before, after)
	}
	if got := textResultsOf(x); !got.same(want) {
		t.Fatalf("the results of %v are %v; they were %v", x, got, want)
	}
}

func TestHistoriesAreLeftAlone(t *testing.T) {
	historyTries(func(r *rand.Rand, g impl.Graph, h impl.History) {
		list := otherCells(r, g, h.States[r.Intn(len(h.States))])
		checkTextsLeftAlone(t, roomyTextArguments(g, h, list, r.Intn(2*impl.MaxStates)-impl.MaxStates))
		checkTextsLeftAlone(t, roomyTextArguments(g, h, list, r.Intn(len(h.States))-h.At))
	})
	// States that are forgotten stay in the argument, and so does what is behind it.
	h := roomyHistory(history(0, oneCell(1, 2, 3)...))
	before := bareHistory(h)
	impl.CommitCells(graph(cell()), h, []int{4})
	h.At = 2
	impl.CommitCells(graph(cell()), h, []int{4})
	h.At = 0
	if after := bareHistory(h); !sameHistory(before, after) {
		t.Errorf("changed: %v is %v", before, after)
	}
}

func TestInvalidHistoriesAreLeftAlone(t *testing.T) {
	historyTries(func(r *rand.Rand, g impl.Graph, h impl.History) {
		list := h.States[0]
		changeHistory(r, g, &h)
		checkTextsLeftAlone(t, roomyTextArguments(g, h, list, r.Intn(3)-1))
		wrong := invalidCells(g)
		checkTextsLeftAlone(t, roomyTextArguments(g, h, wrong[r.Intn(len(wrong))], r.Intn(3)-1))
	})
	for _, g := range invalidGraphs()[3:] {
		list := evenCells(g, 0)
		checkTextsLeftAlone(t, roomyTextArguments(g, history(1, list, list), list, -1))
	}
}

// listsOfHistory returns the lists of numbers of a history, and another one.
func listsOfHistory(h impl.History, changed []int) [][]int {
	return append(slices.Clone(h.States), changed)
}

func checkHistoryApart(t *testing.T, g impl.Graph, h impl.History, list []int) {
	t.Helper()
	checkListsApart(t, func() [][]int { return listsOfHistory(impl.NewHistory(g, list), nil) })
	checkListsApart(t, func() [][]int {
		out, _ := impl.CommitCells(g, h, list)
		return listsOfHistory(out, nil)
	})
	for at := range h.States {
		checkListsApart(t, func() [][]int {
			out, changed, _ := impl.MoveHistory(g, h, at-h.At)
			return listsOfHistory(out, changed)
		})
	}
}

func TestStatesOfHistoriesShareNothing(t *testing.T) {
	historyTries(func(r *rand.Rand, g impl.Graph, h impl.History) {
		checkHistoryApart(t, g, h, otherCells(r, g, h.States[0]))
	})
	// States that share memory in the argument do not in the result.
	g := graph(cells(2)...)
	room := []int{1, 1, 1, 1}
	for at := range 3 {
		h := history(at, room[:2], room[1:3], room[:2], room[2:])
		checkHistoryApart(t, g, h, h.States[at])
		checkHistoryApart(t, g, h, h.States[0])
	}
	if !slices.Equal(room, []int{1, 1, 1, 1}) {
		t.Errorf("changed: %v", room)
	}
}

func TestParsedFormulasShareNothing(t *testing.T) {
	graphTextTries(func(s string) {
		checkApart(t, func() impl.Graph {
			g, _, _ := impl.ParseGraph(s)
			return g
		})
	})
}
