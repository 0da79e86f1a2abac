package tests

import (
	"math"
	"math/rand"
	"slices"
	"strings"
	"testing"

	"loop.example/signalgraph/impl"
)

// historySorts counts what there is to a history of a graph, and to the change of two of its states.
func historySorts(count func(name string, holds bool), g impl.Graph, h impl.History) {
	last := len(h.States) - 1
	count("one state", last == 0)
	count("the most states", last == impl.MaxStates-1)
	count("full, at the end", h.At == impl.MaxStates-1)
	count("full, with states ahead", last == impl.MaxStates-1 && h.At < last)
	count("in between", h.At > 0 && h.At < last)
	a, b := h.States[0], h.States[last]
	changed := wantedChanges(g, a, b)
	_, reads := meant(g, a)
	for _, n := range changed {
		ways := waysOfChange(g, n, changed, reads)
		count("one way", len(ways) == 1 && len(ways[0]) > 2)
		count("many ways", len(ways) > 3)
		count("a node that is read first is not the least one", len(ways) > 1 && !slices.Equal(ways[0], slices.MinFunc(ways, slices.Compare[[]int])))
		count("a node is read, but not changed", g.Nodes[n].Kind != impl.NdCell && !slices.Contains(changed, slices.Min(reads[n])))
		count("a changed node may be read, but is not", slices.ContainsFunc(changed, func(m int) bool { return hasRead(g, n, m) && !slices.Contains(reads[n], m) }))
	}
	count("only cells change", len(changed) > 0 && len(apart(changed, cellsOfGraph(g))) == 0)
	count("nothing changes", last > 0 && len(changed) == 0)
}

// deskSorts counts what there is to the answers of a desk.
func deskSorts(count func(name string, holds bool), s string, lines []string) {
	_, _, ok := wantedGraph(s)
	answers := wantedAnswers(s, lines)
	count("no graph", !ok && len(lines) > 0)
	count("no lines", len(lines) == 0)
	count("the most lines", ok && len(lines) == impl.MaxDesk)
	for i, line := range lines {
		answer := answers[i]
		isSet, isGet := setLine.MatchString(line), getLine.MatchString(line)
		count("a line that means nothing", answer == "what" && !isSet && !isGet)
		count("a node that is not there or no cell", answer == "what" && (isSet || isGet))
		count("set runs nothing", isSet && answer == "")
		count("set runs some", isSet && strings.Contains(answer, " "))
		count("get runs nothing", isGet && answer != "what" && answer != "wrong" && !strings.Contains(answer, " "))
		count("get runs some", isGet && strings.Count(answer, " ") > 1)
		count("nothing is stale", line == "stale" && answer == "")
		count("much is stale", line == "stale" && strings.Count(answer, " ") > 2)
		count("values", line == "values" && strings.Count(answer, " ") > 2)
	}
}

func TestTriedHistoriesAndTextsAreOfAllSorts(t *testing.T) {
	counts := map[string]int{}
	count := func(name string, holds bool) {
		counts[name] += map[bool]int{true: 1}[holds]
	}
	historyTries(func(r *rand.Rand, g impl.Graph, h impl.History) { historySorts(count, g, h) })
	formulaTextTries(func(s string) {
		_, ok := wantedFormula(s)
		count("a formula", ok)
		count("no formula", !ok)
		count("the longest formula", ok && strings.Count(s, " ") == impl.MaxParts-1)
	})
	graphTextTries(func(s string) {
		g, _, ok := wantedGraph(s)
		count("a graph", ok)
		count("no graph text", !ok)
		count("the most nodes", ok && len(g.Nodes) == impl.MaxNodes)
		count("no nodes", ok && len(g.Nodes) == 0)
	})
	deskTries(func(r *rand.Rand, s string, lines []string) { deskSorts(count, s, lines) })
	if len(counts) != 31 {
		t.Errorf("%d sorts", len(counts))
	}
	for name, times := range counts {
		if times < 30 {
			t.Errorf("%d times: %s", times, name)
		}
	}
}

// isValidHistory is another way to tell: cells are as they are with all that is no cell crossed out.
func isValidHistory(g impl.Graph, h impl.History) bool {
	isCells := func(list []int) bool {
		return len(list) == len(g.Nodes) && slices.Equal(list, cellsIn(g, list)) && (len(list) == 0 || slices.Min(list) >= 0 && slices.Max(list) <= 999)
	}
	isOther := func(list []int) bool { return !isCells(list) }
	return isValidGraph(g) && len(h.States) <= 10 && slices.Contains(upTo(0, len(h.States)-1), h.At) && !slices.ContainsFunc(h.States, isOther)
}

// changeHistory changes one thing about a history.
func changeHistory(r *rand.Rand, g impl.Graph, h *impl.History) {
	list := slices.Clone(h.States[r.Intn(len(h.States))])
	switch r.Intn(5) {
	case 0:
		h.At = r.Intn(len(h.States)+3) - 2
		return
	case 1:
		h.States = h.States[:r.Intn(len(h.States))]
		return
	case 2:
		list = append(list, 0)
	case 3:
		list = list[:r.Intn(len(list)+1)]
	default:
		if len(list) > 0 {
			list[r.Intn(len(list))] = []int{-1, 0, 1, 999, 1000}[r.Intn(5)]
		}
	}
	h.States = slices.Insert(slices.Clone(h.States), r.Intn(len(h.States)+1), list)
}

func TestP82HistoriesCanBeAnywhere(t *testing.T) {
	historyTries(func(r *rand.Rand, g impl.Graph, h impl.History) {
		for at := -2; at < len(h.States)+2; at++ {
			h.At = at
			isState := at >= 0 && at < len(h.States)
			if impl.ValidHistory(g, h) != isState {
				t.Fatalf("ValidHistory(%v, %v) = %v", g, h, !isState)
			}
			if !isState {
				checkNoHistory(t, g, h)
			}
		}
	})
}

func TestP82OtherHistoriesAreNotValid(t *testing.T) {
	valid, invalid := 0, 0
	historyTries(func(r *rand.Rand, g impl.Graph, h impl.History) {
		changeHistory(r, g, &h)
		if !isValidHistory(g, h) {
			invalid++
			checkNoHistory(t, g, h)
			return
		}
		valid++
		if !impl.ValidHistory(g, h) {
			t.Errorf("not valid: %v of %v", h, g)
		}
	})
	if valid < 300 || invalid < 300 {
		t.Errorf("%d valid and %d invalid histories", valid, invalid)
	}
}

func TestP83NewHistoriesHaveOneState(t *testing.T) {
	graphTries(func(r *rand.Rand, g impl.Graph, list []int) {
		h := impl.NewHistory(g, list)
		if !sameHistory(h, history(0, list)) || !impl.ValidHistory(g, h) {
			t.Errorf("NewHistory(%v, %v) = %v", g, list, h)
		}
		if out, changed, ok := impl.MoveHistory(g, h, 0); !ok || len(changed) != 0 || !sameHistory(out, h) {
			t.Errorf("MoveHistory(%v, %v, 0) = %v, %v, %v", g, h, out, changed, ok)
		}
		for _, by := range []int{-2, -1, 1, 2, impl.MaxStates, math.MaxInt, math.MinInt} {
			checkNoMove(t, g, h, by)
		}
		wrong := append(slices.Clone(list), 0)
		if len(list) > 0 {
			wrong = slices.Clone(list)
			wrong[r.Intn(len(wrong))] = []int{-1, impl.Modulus}[r.Intn(2)]
		}
		if h := impl.NewHistory(g, wrong); !isNoHistory(h) {
			t.Errorf("NewHistory(%v, %v) = %v", g, wrong, h)
		}
	})
}

func TestP84WhatIsCommittedCanBeUndone(t *testing.T) {
	committed, full := 0, 0
	historyTries(func(r *rand.Rand, g impl.Graph, h impl.History) {
		list := otherCells(r, g, h.States[r.Intn(len(h.States))])
		if h.At == impl.MaxStates-1 {
			full++
			checkNoCommit(t, g, h, list)
			return
		}
		committed++
		out, ok := impl.CommitCells(g, h, list)
		states := append(slices.Clone(h.States[:h.At+1]), list)
		if !ok || !sameHistory(out, history(h.At+1, states...)) || !impl.ValidHistory(g, out) {
			t.Fatalf("CommitCells(%v, %v, %v) = %v, %v", g, h, list, out, ok)
		}
		back, changed, ok := impl.MoveHistory(g, out, -1)
		if !ok || !sameHistory(back, history(h.At, states...)) || !slices.Equal(changed, wantedChanges(g, list, h.States[h.At])) {
			t.Errorf("MoveHistory(%v, %v, -1) = %v, %v, %v", g, out, back, changed, ok)
		}
		for by := 1; by <= impl.MaxStates; by++ {
			checkNoMove(t, g, out, by)
		}
	})
	if committed < 500 || full < 100 {
		t.Errorf("cells were committed %d times, and could not be %d times", committed, full)
	}
}

func TestP84OtherCellsAreNotCommitted(t *testing.T) {
	historyTries(func(r *rand.Rand, g impl.Graph, h impl.History) {
		wrong := invalidCells(g)
		checkNoCommit(t, g, h, wrong[r.Intn(len(wrong))])
	})
}

func TestP85StepsBackAndForthAreNothing(t *testing.T) {
	historyTries(func(r *rand.Rand, g impl.Graph, h impl.History) {
		for by := -impl.MaxStates; by <= impl.MaxStates; by++ {
			at := h.At + by
			if at < 0 || at >= len(h.States) {
				checkNoMove(t, g, h, by)
				continue
			}
			out, changed, ok := impl.MoveHistory(g, h, by)
			if !ok || !sameHistory(out, history(at, h.States...)) || !slices.Equal(changed, wantedChanges(g, h.States[h.At], h.States[at])) {
				t.Fatalf("MoveHistory(%v, %v, %d) = %v, %v, %v", g, h, by, out, changed, ok)
			}
			back, again, ok := impl.MoveHistory(g, out, -by)
			if !ok || !sameHistory(back, h) || !slices.Equal(again, changed) {
				t.Errorf("MoveHistory(%v, %v, %d) = %v, %v, %v; it was %v with %v", g, out, -by, back, again, ok, h, changed)
			}
		}
	})
}

// checkWay checks why a node that changed did so.
func checkWay(t *testing.T, g impl.Graph, a []int, b []int, n int, changed []int) {
	t.Helper()
	way := impl.WhyChanged(g, a, b, n)
	if want := wantedWhy(g, a, b, n); !slices.Equal(way, want) {
		t.Fatalf("WhyChanged(%v, %v, %v, %d) = %v; want %v", g, a, b, n, way, want)
	}
	first, last := way[0], way[len(way)-1]
	if g.Nodes[first].Kind != impl.NdCell || last != n || len(apart(way, changed)) > 0 {
		t.Errorf("WhyChanged(%v, %v, %v, %d) = %v; %v changed", g, a, b, n, way, changed)
	}
	deps := impl.DepsOf(g, a)
	for i, next := range way[1:] {
		if !slices.Contains(deps[next], way[i]) {
			t.Errorf("WhyChanged(%v, %v, %v, %d) = %v; %d reads %v", g, a, b, n, way, next, deps[next])
		}
	}
}

func TestP86ChangesHaveAWayFromACell(t *testing.T) {
	changes, stays := 0, 0
	historyTries(func(r *rand.Rand, g impl.Graph, h impl.History) {
		a, b := h.States[0], h.States[len(h.States)-1]
		changed := impl.ChangedBy(g, a, b)
		for n := range g.Nodes {
			if slices.Contains(changed, n) {
				changes++
				checkWay(t, g, a, b, n, changed)
				checkWay(t, g, b, a, n, changed)
			} else {
				stays++
				checkNoWhy(t, g, a, b, n)
			}
			checkNoWhy(t, g, a, a, n)
		}
		for _, n := range []int{-1, len(g.Nodes), math.MaxInt} {
			checkNoWhy(t, g, a, b, n)
		}
	})
	if changes < 2000 || stays < 2000 {
		t.Errorf("%d nodes changed, and %d did not", changes, stays)
	}
}

func TestP86OtherCellsDoNotChange(t *testing.T) {
	historyTries(func(r *rand.Rand, g impl.Graph, h impl.History) {
		wrong := invalidCells(g)
		list := wrong[r.Intn(len(wrong))]
		for n := range g.Nodes {
			checkNoWhy(t, g, h.States[0], list, n)
			checkNoWhy(t, g, list, h.States[0], n)
		}
	})
}

func TestP87FormulasAreReadBack(t *testing.T) {
	tries(func(r *rand.Rand, f impl.Formula, values []int) {
		parts, last := whole(f)
		s := impl.FormatFormula(f)
		if want := wantedText(parts, last); s != want {
			t.Fatalf("FormatFormula(%v) = %q; want %q", f, s, want)
		}
		back, ok := impl.ParseFormula(s)
		if want := wantedParts(parts, last, false); !ok || !slices.Equal(back.Parts, want) {
			t.Errorf("ParseFormula(%q) = %v, %v; want %v", s, back, ok, want)
		}
		if want := impl.OrderParts(f); !slices.Equal(back.Parts, want.Parts) {
			t.Errorf("ParseFormula(%q) = %v; OrderParts = %v", s, back, want)
		}
	})
}

func TestP87OtherFormulasHaveNoText(t *testing.T) {
	invalid := 0
	tries(func(r *rand.Rand, f impl.Formula, values []int) {
		p := &f.Parts[r.Intn(len(f.Parts))]
		field := []*int{&p.Kind, &p.A, &p.B, &p.C, &p.N}[r.Intn(5)]
		*field += []int{-1, 1, 100, -100}[r.Intn(4)]
		if s := impl.FormatFormula(f); (s != "") != isValid(f) {
			t.Errorf("FormatFormula(%v) = %q", f, s)
		}
		if !isValid(f) {
			invalid++
		}
	})
	if invalid < 1000 {
		t.Errorf("%d formulas that are not valid", invalid)
	}
}

// checkFormulaText checks which formula a text is that of, and that it is written back.
func checkFormulaText(t *testing.T, s string) {
	t.Helper()
	want, ok := wantedFormula(s)
	if !ok {
		checkNoFormula(t, s)
		return
	}
	f, ok := impl.ParseFormula(s)
	if !ok || !slices.Equal(f.Parts, want.Parts) {
		t.Fatalf("ParseFormula(%q) = %v, %v; want %v", s, f, ok, want)
	}
	if back := impl.FormatFormula(f); back != s {
		t.Errorf("FormatFormula(%v) = %q; want %q", f, back, s)
	}
	if !impl.ValidFormula(f) || !slices.Equal(impl.OrderParts(f).Parts, f.Parts) {
		t.Errorf("ParseFormula(%q) = %v, which is not in order", s, f)
	}
}

func TestP88FormulasAreWrittenBack(t *testing.T) {
	formulaTextTries(func(s string) { checkFormulaText(t, s) })
}

func TestP88ShortTextsAreWrittenBack(t *testing.T) {
	formulas := 0
	wordTries(func(s string) {
		checkFormulaText(t, s)
		if _, ok := impl.ParseFormula(s); ok {
			formulas++
		}
	})
	// Of two leaves: 2 of one word, 4 of three with less, 8 of four with if, and 2*8 of five with less twice.
	if formulas != 2+4+8+16 {
		t.Errorf("%d formulas", formulas)
	}
}

func TestP88NumbersAreWrittenBack(t *testing.T) {
	for n := range 1200 {
		for _, zeros := range []string{"", "0", "00"} {
			word := zeros + joined([]int{n})
			checkFormulaText(t, word)
			checkFormulaText(t, "r"+word)
			checkGraphText(t, "cell "+word+"\n")
		}
	}
}

func TestP89GraphsAreReadBack(t *testing.T) {
	check := func(g impl.Graph, list []int) {
		s := impl.FormatGraph(g, list)
		if want := wantedGraphText(g, list); s != want {
			t.Fatalf("FormatGraph(%v, %v) = %q; want %q", g, list, s, want)
		}
		if strings.Count(s, "\n") != len(g.Nodes) {
			t.Errorf("FormatGraph(%v, %v) = %q", g, list, s)
		}
		back, again, ok := impl.ParseGraph(s)
		if !ok || !slices.Equal(again, list) || len(back.Nodes) != len(g.Nodes) {
			t.Fatalf("ParseGraph(%q) = %v, %v, %v; want %v", s, back, again, ok, list)
		}
		for n, node := range g.Nodes {
			if back.Nodes[n].Kind != node.Kind || !slices.Equal(back.Nodes[n].Formula.Parts, impl.OrderParts(node.Formula).Parts) {
				t.Errorf("ParseGraph(%q) has the node %v; want %v in order", s, back.Nodes[n], node)
			}
		}
		values, reads := meant(g, list)
		if !slices.Equal(impl.MeaningOf(back, again), values) || !sameLists(impl.DepsOf(back, again), reads) {
			t.Errorf("ParseGraph(%q) = %v, which means %v; want %v", s, back, impl.MeaningOf(back, again), values)
		}
	}
	graphTries(func(r *rand.Rand, g impl.Graph, list []int) { check(g, list) })
	historyTries(func(r *rand.Rand, g impl.Graph, h impl.History) { check(g, h.States[0]) })
}

func TestP89OtherGraphsHaveNoText(t *testing.T) {
	invalid := 0
	graphTries(func(r *rand.Rand, g impl.Graph, list []int) {
		wrong := invalidCells(g)
		if s := impl.FormatGraph(g, wrong[r.Intn(len(wrong))]); s != "" {
			t.Errorf("FormatGraph(%v) of other cells = %q", g, s)
		}
		if len(g.Nodes) == 0 {
			return
		}
		changeNode(r, &g.Nodes[r.Intn(len(g.Nodes))])
		list = cellsIn(g, list)
		if s := impl.FormatGraph(g, list); (s != "") != isValidGraph(g) {
			t.Errorf("FormatGraph(%v, %v) = %q", g, list, s)
		}
		if !isValidGraph(g) {
			invalid++
		}
	})
	if invalid < 200 {
		t.Errorf("%d graphs that are not valid", invalid)
	}
}

// checkGraphText checks which graph and cells a text is that of, and that it is written back.
func checkGraphText(t *testing.T, s string) {
	t.Helper()
	want, cells, ok := wantedGraph(s)
	if !ok {
		checkNoGraph(t, s)
		return
	}
	g, list, ok := impl.ParseGraph(s)
	if !ok || !sameGraph(g, want) || !slices.Equal(list, cells) {
		t.Fatalf("ParseGraph(%q) = %v, %v, %v; want %v, %v", s, g, list, ok, want, cells)
	}
	if back := impl.FormatGraph(g, list); back != s {
		t.Errorf("FormatGraph(%v, %v) = %q; want %q", g, list, back, s)
	}
}

func TestP90GraphsAreWrittenBack(t *testing.T) {
	graphTextTries(func(s string) { checkGraphText(t, s) })
}

func TestP91EachLineHasAnAnswer(t *testing.T) {
	deskTries(func(r *rand.Rand, s string, lines []string) {
		out := impl.RunDesk(s, lines)
		if want := textOf(wantedAnswers(s, lines)); out != want {
			t.Fatalf("RunDesk(%q, %q) = %q; want %q", s, lines, out, want)
		}
		if strings.Count(out, "\n") != len(lines) {
			t.Errorf("RunDesk(%q, %q) = %q", s, lines, out)
		}
		some := r.Intn(len(lines) + 1)
		if first := impl.RunDesk(s, lines[:some]); !strings.HasPrefix(out, first) || strings.Count(first, "\n") != some {
			t.Errorf("RunDesk(%q, %q) = %q; of the first %d lines %q", s, lines, out, some, first)
		}
		if more := append(slices.Clone(lines), make([]string, impl.MaxDesk+1-len(lines))...); impl.RunDesk(s, more) != "" {
			t.Errorf("RunDesk(%q) of %d lines = %q", s, len(more), impl.RunDesk(s, more))
		}
	})
}

func TestP91AnswersAreThoseOfTheMachines(t *testing.T) {
	deskTries(func(r *rand.Rand, s string, lines []string) {
		g, list, ok := impl.ParseGraph(s)
		if !ok {
			return
		}
		lines = append(lines[:min(len(lines), impl.MaxDesk-2)], "values", "stale")
		eager, lazy := impl.StartEager(g, list), impl.StartLazy(g, list)
		answers := strings.Split(impl.RunDesk(s, lines), "\n")
		for i, line := range lines {
			set, get := setLine.FindStringSubmatch(line), getLine.FindStringSubmatch(line)
			var want []int
			switch {
			case answers[i] == "what":
				continue
			case set != nil:
				eager, want = impl.WriteEager(g, eager, []int{digits(set[1])}, []int{digits(set[2])})
				lazy, _ = impl.WriteLazy(g, lazy, digits(set[1]), digits(set[2]))
			case get != nil:
				st, value, ran := impl.ReadLazy(g, lazy, digits(get[1]))
				lazy, want = st, append([]int{value}, ran...)
			case line == "values":
				want = eager.Values
			default:
				want = impl.StaleOf(g, lazy)
			}
			if answers[i] != joined(want) {
				t.Fatalf("RunDesk(%q, %q) answers %q to the line %d; want %v", s, lines, answers[i], i, want)
			}
		}
	})
}
