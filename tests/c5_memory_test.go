package tests

import (
	"math/rand"
	"slices"
	"testing"

	"loop.example/signalgraph/impl"
)

// roomyPlay returns a session of new memory, with nodes, cells and acts to spare.
func roomyPlay(p play) play {
	room := append(slices.Clone(p.acts), begin, put(0, 1), end)
	return play{roomyGraph(p.g), roomyList(p.list), room[:len(p.acts)]}
}

// barePlay returns a session with what it has to spare, as a copy.
func barePlay(p play) play {
	return play{bareGraph(p.g), slices.Clone(p.list[:cap(p.list)]), slices.Clone(p.acts[:cap(p.acts)])}
}

func samePlay(a play, b play) bool {
	return sameGraph(a.g, b.g) && slices.Equal(a.list, b.list) && slices.Equal(a.acts, b.acts)
}

// spoilAll writes over all memory of lists of anything.
func spoilAll[T any](x T, lists ...[]T) {
	for _, list := range lists {
		all := list[:cap(list)]
		for i := range all {
			all[i] = x
		}
	}
}

// spoilPlayResults calls all functions of sessions and writes over what they return.
func spoilPlayResults(p play) {
	impl.ValidActs(p.g, p.acts)
	impl.RunsIn(p.g, p.list, p.acts)
	impl.FlushesIn(p.g, p.acts)
	spoilAll(impl.Show{Node: -9, Value: -9}, shownIn(p)...)
	spoilAll(-9, impl.CellsAfter(p.g, p.list, p.acts))
	spoilAll(put(-9, -9), impl.BatchAll(p.g, p.acts))
}

func checkPlayLeftAlone(t *testing.T, p play) {
	t.Helper()
	before := barePlay(p)
	spoilPlayResults(p)
	if after := barePlay(p); !samePlay(before, after) {
		t.Fatalf("changed: %v is %v", before, after)
	}
}

func TestSessionsAreLeftAlone(t *testing.T) {
	playTries(func(r *rand.Rand, p play) {
		checkPlayLeftAlone(t, roomyPlay(p))
	})
	// Nothing is done, so the cells are those that were given.
	checkPlayLeftAlone(t, roomyPlay(play{echo(), []int{2, 3, 0, 0, 0, 0}, nil}))
	checkPlayLeftAlone(t, roomyPlay(play{echo(), []int{2, 3, 0, 0, 0, 0}, acts(begin, put(0, 1))}))
}

func TestInvalidSessionsAreLeftAlone(t *testing.T) {
	for _, g := range invalidGraphs() {
		checkPlayLeftAlone(t, roomyPlay(play{g, evenCells(g, 0), acts(put(0, 1), begin)}))
	}
	playTries(func(r *rand.Rand, p play) {
		p = roomyPlay(p)
		if len(p.acts) > 0 {
			changeAct(r, &p.acts[r.Intn(len(p.acts))])
		} else {
			p.list = append(p.list, -1)
		}
		checkPlayLeftAlone(t, p)
	})
}
