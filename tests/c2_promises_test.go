package tests

import (
	"math/rand"
	"slices"
	"testing"

	"loop.example/signalgraph/impl"
)

func TestTriedGraphsAreOfAllSorts(t *testing.T) {
	counts := map[string]int{}
	count := func(name string, holds bool) {
		if holds {
			counts[name]++
		}
	}
	graphTries(func(r *rand.Rand, g impl.Graph, list []int) {
		if !impl.ValidGraph(g) || !impl.ValidCells(g, list) {
			t.Fatalf("not valid: %v with %v", g, list)
		}
		ways := waysIn(g)
		_, reads := meant(g, list)
		count("empty", len(g.Nodes) == 0)
		count("full", len(g.Nodes) == impl.MaxNodes)
		for n, node := range g.Nodes {
			isUsed := false
			isWatched := node.Kind == impl.NdEffect
			for m := n + 1; m < len(g.Nodes); m++ {
				isUsed = isUsed || hasRead(g, m, n)
				isWatched = isWatched || ways[n][m] && g.Nodes[m].Kind == impl.NdEffect
				count("far way", ways[n][m] && !hasRead(g, m, n))
				count("no way", !ways[n][m])
				count("not read", hasRead(g, m, n) && !slices.Contains(reads[m], n))
			}
			count("unused cell", node.Kind == impl.NdCell && !isUsed)
			count("unused node", node.Kind == impl.NdDerived && !isUsed)
			count("effect without reads", node.Kind == impl.NdEffect && longestTo(g, n) == 0)
			count("derived node without reads", node.Kind == impl.NdDerived && longestTo(g, n) == 0)
			count("high node", longestTo(g, n) > 2)
			count("watched node", isWatched && node.Kind != impl.NdEffect)
			count("unwatched node", !isWatched)
		}
	})
	for _, name := range []string{
		"empty", "full", "far way", "no way", "not read", "unused cell", "unused node", "effect without reads",
		"derived node without reads", "high node", "watched node", "unwatched node",
	} {
		if counts[name] < 100 {
			t.Errorf("%d times: %s", counts[name], name)
		}
	}
}

func TestP10TheFirstNodesAreAGraph(t *testing.T) {
	graphTries(func(r *rand.Rand, g impl.Graph, list []int) {
		for k := range len(g.Nodes) + 1 {
			if !impl.ValidGraph(graph(g.Nodes[:k]...)) {
				t.Errorf("the first %d nodes of %v are not valid", k, g)
			}
		}
	})
}

func TestP11AllCellsCanBe0(t *testing.T) {
	graphTries(func(r *rand.Rand, g impl.Graph, list []int) {
		if !impl.ValidCells(g, list) || !impl.ValidCells(g, make([]int, len(list))) {
			t.Errorf("cells of %v are not valid", g)
		}
		if len(list) == 0 {
			return
		}
		n := r.Intn(len(list))
		list[n] = []int{-1, 0, 1, impl.Modulus - 1, impl.Modulus}[r.Intn(5)]
		isCell := g.Nodes[n].Kind == impl.NdCell
		want := list[n] == 0 || isCell && list[n] > 0 && list[n] < impl.Modulus
		if impl.ValidCells(g, list) != want {
			t.Errorf("ValidCells(%v, %v) = %v", g, list, !want)
		}
	})
}

func TestP12ValuesAreThoseOfFormulas(t *testing.T) {
	graphTries(func(r *rand.Rand, g impl.Graph, list []int) {
		values := impl.MeaningOf(g, list)
		if want, _ := meant(g, list); !slices.Equal(values, want) {
			t.Fatalf("MeaningOf(%v, %v) = %v; want %v", g, list, values, want)
		}
		for n, node := range g.Nodes {
			want := list[n]
			if node.Kind != impl.NdCell {
				want = valueOf(node.Formula, values)
			}
			if values[n] != want {
				t.Errorf("MeaningOf(%v, %v) = %v", g, list, values)
			}
		}
	})
}

func TestP13FarCellsDoNotMatter(t *testing.T) {
	changed := 0
	graphTries(func(r *rand.Rand, g impl.Graph, list []int) {
		values := impl.MeaningOf(g, list)
		for n := range g.Nodes {
			need := impl.NeedOf(g, n)
			others := randomCells(r, g)
			for _, near := range need {
				others[near] = list[near]
			}
			if !slices.Equal(others, list) {
				changed++
			}
			if impl.MeaningOf(g, others)[n] != values[n] {
				t.Errorf("the node %d of %v with %v and with %v", n, g, list, others)
			}
		}
	})
	if changed < 1000 {
		t.Errorf("cells were others %d times", changed)
	}
}

func TestP14NodesReadNodesAheadOfThem(t *testing.T) {
	graphTries(func(r *rand.Rand, g impl.Graph, list []int) {
		deps := impl.DepsOf(g, list)
		if _, want := meant(g, list); !sameLists(deps, want) {
			t.Fatalf("DepsOf(%v, %v) = %v; want %v", g, list, deps, want)
		}
		values := impl.MeaningOf(g, list)
		for n, node := range g.Nodes {
			if !slices.Equal(deps[n], impl.ReadsOf(node.Formula, values)) {
				t.Errorf("DepsOf(%v, %v) = %v", g, list, deps)
			}
			for _, ahead := range deps[n] {
				if ahead >= n || g.Nodes[ahead].Kind == impl.NdEffect {
					t.Errorf("DepsOf(%v, %v) = %v", g, list, deps)
				}
			}
		}
	})
}

func TestP15UsersAreHigher(t *testing.T) {
	graphTries(func(r *rand.Rand, g impl.Graph, list []int) {
		heights := impl.HeightsOf(g)
		if len(heights) != len(g.Nodes) {
			t.Fatalf("HeightsOf(%v) = %v", g, heights)
		}
		for n := range g.Nodes {
			if heights[n] != longestTo(g, n) {
				t.Errorf("HeightsOf(%v) = %v", g, heights)
			}
			for _, user := range impl.UsersOf(g, n) {
				if heights[user] <= heights[n] {
					t.Errorf("HeightsOf(%v) = %v, but %d uses %d", g, heights, user, n)
				}
			}
		}
	})
}

func TestP16UsersHaveTheNode(t *testing.T) {
	graphTries(func(r *rand.Rand, g impl.Graph, list []int) {
		for n := range g.Nodes {
			want := nodesThat(g, func(m int) bool { return hasRead(g, m, n) })
			if users := impl.UsersOf(g, n); !slices.Equal(users, want) {
				t.Errorf("UsersOf(%v, %d) = %v; want %v", g, n, users, want)
			}
		}
	})
}

func TestP17ReachIsClosed(t *testing.T) {
	graphTries(func(r *rand.Rand, g impl.Graph, list []int) {
		ways := waysIn(g)
		for n := range g.Nodes {
			reach := impl.ReachOf(g, n)
			if want := nodesThat(g, func(m int) bool { return ways[n][m] }); !slices.Equal(reach, want) {
				t.Fatalf("ReachOf(%v, %d) = %v; want %v", g, n, reach, want)
			}
			for _, m := range reach {
				for _, user := range impl.UsersOf(g, m) {
					if !slices.Contains(reach, user) {
						t.Errorf("ReachOf(%v, %d) = %v lacks %d", g, n, reach, user)
					}
				}
			}
			for m := range g.Nodes {
				if slices.Contains(reach, m) != slices.Contains(impl.NeedOf(g, m), n) {
					t.Errorf("%d reaches %d in %v, or needs it, but not both", n, m, g)
				}
			}
		}
	})
}

func TestP18NeedGoesUp(t *testing.T) {
	graphTries(func(r *rand.Rand, g impl.Graph, list []int) {
		ways := waysIn(g)
		for n, node := range g.Nodes {
			need := impl.NeedOf(g, n)
			if want := nodesThat(g, func(m int) bool { return ways[m][n] }); !slices.Equal(need, want) {
				t.Fatalf("NeedOf(%v, %d) = %v; want %v", g, n, need, want)
			}
			for _, ahead := range impl.MayRead(node.Formula) {
				for _, m := range impl.NeedOf(g, ahead) {
					if !slices.Contains(need, m) {
						t.Errorf("NeedOf(%v, %d) = %v lacks %d", g, n, need, m)
					}
				}
			}
		}
	})
}

func TestP19WatchedNodesAreNeededByEffects(t *testing.T) {
	graphTries(func(r *rand.Rand, g impl.Graph, list []int) {
		isEffect := func(m int) bool { return g.Nodes[m].Kind == impl.NdEffect }
		want := nodesThat(g, func(n int) bool { return slices.ContainsFunc(impl.ReachOf(g, n), isEffect) })
		ways := waysIn(g)
		told := nodesThat(g, func(n int) bool {
			return slices.ContainsFunc(nodesThat(g, isEffect), func(m int) bool { return ways[n][m] })
		})
		if watched := impl.WatchedOf(g); !slices.Equal(watched, want) || !slices.Equal(watched, told) {
			t.Errorf("WatchedOf(%v) = %v; want %v", g, watched, told)
		}
	})
}

func TestP20ChangesComeFromCells(t *testing.T) {
	some, none := 0, 0
	graphTries(func(r *rand.Rand, g impl.Graph, list []int) {
		others := otherCells(r, g, list)
		before, _ := meant(g, list)
		after, _ := meant(g, others)
		want := nodesThat(g, func(n int) bool { return before[n] != after[n] })
		changed := impl.ChangedBy(g, list, others)
		if !slices.Equal(changed, want) || !slices.Equal(changed, impl.ChangedBy(g, others, list)) {
			t.Errorf("ChangedBy(%v, %v, %v) = %v; want %v", g, list, others, changed, want)
		}
		var reached []int
		for n := range g.Nodes {
			if list[n] != others[n] {
				reached = append(reached, impl.ReachOf(g, n)...)
			}
		}
		for _, n := range changed {
			if !slices.Contains(reached, n) {
				t.Errorf("ChangedBy(%v, %v, %v) = %v, but nothing reaches %d", g, list, others, changed, n)
			}
		}
		if len(changed) > 0 {
			some++
		} else {
			none++
		}
	})
	if some < 500 || none < 100 {
		t.Errorf("%d times something changed, %d times nothing", some, none)
	}
}

func TestP21SetCellsAreSet(t *testing.T) {
	graphTries(func(r *rand.Rand, g impl.Graph, list []int) {
		for n, node := range g.Nodes {
			value := []int{0, 1, impl.Modulus - 1, r.Intn(impl.Modulus)}[r.Intn(4)]
			out, ok := impl.SetCell(g, list, n, value)
			if ok != (node.Kind == impl.NdCell) {
				t.Fatalf("SetCell(%v, %v, %d, %d) = %v, %v", g, list, n, value, out, ok)
			}
			if !ok {
				continue
			}
			want := slices.Clone(list)
			want[n] = value
			back, isBack := impl.SetCell(g, out, n, list[n])
			if !slices.Equal(out, want) || !slices.Equal(back, list) || !isBack {
				t.Errorf("SetCell(%v, %v, %d, %d) = %v, and back %v", g, list, n, value, out, back)
			}
		}
	})
}

func TestP22MoreNodesChangeNoOthers(t *testing.T) {
	added := 0
	graphTries(func(r *rand.Rand, g impl.Graph, list []int) {
		n := randomNode(r, g.Nodes)
		longer, ok := impl.AddNode(g, n)
		if ok != (len(g.Nodes) < impl.MaxNodes) {
			t.Fatalf("AddNode(%v, %v) = %v, %v", g, n, longer, ok)
		}
		if !ok {
			return
		}
		added++
		if !sameGraph(longer, graph(append(slices.Clone(g.Nodes), n)...)) || !impl.ValidGraph(longer) {
			t.Fatalf("AddNode(%v, %v) = %v", g, n, longer)
		}
		values := impl.MeaningOf(longer, append(slices.Clone(list), 0))
		if len(values) != len(list)+1 || !slices.Equal(values[:len(list)], impl.MeaningOf(g, list)) {
			t.Errorf("MeaningOf(%v) = %v", longer, values)
		}
	})
	if added < 1000 {
		t.Errorf("%d nodes were added", added)
	}
}

func TestP23FoldedGraphsMeanTheSame(t *testing.T) {
	fewer := 0
	graphTries(func(r *rand.Rand, g impl.Graph, list []int) {
		folded := impl.FoldGraph(g)
		for _, x := range [][]int{evenCells(g, 0), evenCells(g, 5), list} {
			if !slices.Equal(impl.MeaningOf(folded, x), impl.MeaningOf(g, x)) || !sameLists(impl.DepsOf(folded, x), impl.DepsOf(g, x)) {
				t.Errorf("FoldGraph(%v) = %v is not the same with %v", g, folded, x)
			}
		}
		want := make([]impl.Node, len(g.Nodes))
		for n, node := range g.Nodes {
			want[n].Kind = node.Kind
			if node.Kind != impl.NdCell {
				want[n].Formula = formula(wantedParts(node.Formula.Parts, len(node.Formula.Parts)-1, true)...)
				fewer += len(node.Formula.Parts) - len(want[n].Formula.Parts)
			}
		}
		if !sameGraph(folded, graph(want...)) || !impl.ValidGraph(folded) {
			t.Errorf("FoldGraph(%v) = %v; want %v", g, folded, want)
		}
	})
	if fewer < 1000 {
		t.Errorf("%d parts were folded away", fewer)
	}
}
