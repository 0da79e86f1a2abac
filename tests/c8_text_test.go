package tests

import (
	"math"
	"slices"
	"strconv"
	"strings"
	"testing"

	"loop.example/signalgraph/impl"
)

func TestHistoryLimits(t *testing.T) {
	if impl.MaxStates != 10 || impl.MaxDesk != 20 {
		t.Errorf("the limits are %d and %d", impl.MaxStates, impl.MaxDesk)
	}
}

// invalidCells returns lists of all sorts that are not cells of a graph.
func invalidCells(g impl.Graph) [][]int {
	lists := [][]int{append(evenCells(g, 0), 0), append(evenCells(g, 1), 1, 2, 3), make([]int, 1000)}
	for n, node := range g.Nodes {
		wrong := []int{-1, 1000, math.MaxInt, math.MinInt}
		if node.Kind != impl.NdCell {
			wrong = append(wrong, 1, 999)
		}
		for _, value := range wrong {
			list := evenCells(g, 3)
			list[n] = value
			lists = append(lists, list)
		}
		lists = append(lists, evenCells(g, 0)[:n])
	}
	return lists
}

// checkNoHistory checks that nothing comes of a history that is not valid.
func checkNoHistory(t *testing.T, g impl.Graph, h impl.History) {
	t.Helper()
	if impl.ValidHistory(g, h) {
		t.Errorf("ValidHistory(%v, %v)", g, h)
	}
	checkNoCommit(t, g, h, evenCells(g, 0))
	for _, by := range []int{-1, 0, 1} {
		checkNoMove(t, g, h, by)
	}
}

func checkNoCommit(t *testing.T, g impl.Graph, h impl.History, list []int) {
	t.Helper()
	if out, ok := impl.CommitCells(g, h, list); ok || !isNoHistory(out) {
		t.Errorf("CommitCells(%v, %v, %v) = %v, %v", g, h, list, out, ok)
	}
}

func checkNoMove(t *testing.T, g impl.Graph, h impl.History, by int) {
	t.Helper()
	if out, changed, ok := impl.MoveHistory(g, h, by); ok || !isNoHistory(out) || len(changed) != 0 {
		t.Errorf("MoveHistory(%v, %v, %d) = %v, %v, %v", g, h, by, out, changed, ok)
	}
}

func TestValidHistory(t *testing.T) {
	for _, g := range validGraphs() {
		zero, one := evenCells(g, 0), evenCells(g, 999)
		for _, h := range []impl.History{
			history(0, zero), history(0, one), history(0, zero, one), history(1, zero, one), history(1, one, one), history(2, zero, one, zero),
			history(0, slices.Repeat([][]int{one}, 10)...), history(9, slices.Repeat([][]int{zero}, 10)...),
		} {
			if !impl.ValidHistory(g, h) {
				t.Errorf("not valid: %v of %v", h, g)
			}
		}
	}
}

func TestInvalidHistories(t *testing.T) {
	for _, g := range validGraphs() {
		zero, one := evenCells(g, 0), evenCells(g, 1)
		for _, h := range []impl.History{
			// No states, or too many.
			{}, history(-1), history(1), {States: [][]int{}},
			history(0, slices.Repeat([][]int{zero}, 11)...), history(10, slices.Repeat([][]int{zero}, 11)...), history(5, slices.Repeat([][]int{one}, 100)...),
			// It is at none of its states.
			history(-1, zero), history(1, zero), history(2, zero, one), history(-1, zero, one), history(3, zero, one), history(10, slices.Repeat([][]int{zero}, 10)...),
			history(math.MaxInt, zero), history(math.MinInt, zero, one),
		} {
			checkNoHistory(t, g, h)
		}
		for _, list := range invalidCells(g) {
			// A state that is not valid: the only one, the first one, one in between, and the last one, at it and not at it.
			for _, h := range []impl.History{history(0, list), history(0, list, one), history(1, list, one), history(1, zero, list, one), history(0, zero, list, one), history(2, zero, one, list), history(0, zero, one, list)} {
				checkNoHistory(t, g, h)
			}
		}
	}
	for _, g := range invalidGraphs() {
		list := evenCells(g, 0)
		for _, h := range []impl.History{{}, history(0, list), history(0, nil), history(1, list, list)} {
			checkNoHistory(t, g, h)
		}
	}
}

func TestNewHistory(t *testing.T) {
	for _, g := range validGraphs() {
		for _, list := range [][]int{evenCells(g, 0), evenCells(g, 7), evenCells(g, 999)} {
			if h := impl.NewHistory(g, list); !sameHistory(h, history(0, list)) {
				t.Errorf("NewHistory(%v, %v) = %v", g, list, h)
			}
		}
		for _, list := range invalidCells(g) {
			if h := impl.NewHistory(g, list); !isNoHistory(h) {
				t.Errorf("NewHistory(%v, %v) = %v", g, list, h)
			}
		}
	}
	for _, g := range invalidGraphs() {
		for _, list := range [][]int{nil, evenCells(g, 0)} {
			if h := impl.NewHistory(g, list); !isNoHistory(h) {
				t.Errorf("NewHistory(%v, %v) = %v", g, list, h)
			}
		}
	}
	// The history of a graph without nodes has a state, too.
	if h := impl.NewHistory(impl.Graph{}, nil); len(h.States) != 1 {
		t.Errorf("NewHistory = %v", h)
	}
}

// oneCell returns the states of a graph with just one cell.
func oneCell(values ...int) [][]int {
	var states [][]int
	for _, x := range values {
		states = append(states, []int{x})
	}
	return states
}

func TestCommitCells(t *testing.T) {
	g := graph(cell())
	full := upTo(1, 10)
	for _, c := range []struct {
		at     int
		values []int
		want   []int
	}{
		{0, []int{5}, []int{5, 0}},
		{1, []int{5, 6}, []int{5, 6, 0}},
		// States that are forgotten: one, some, and all but the first one.
		{0, []int{5, 6}, []int{5, 0}},
		{1, []int{5, 6, 7, 8}, []int{5, 6, 0}},
		{0, []int{5, 6, 7, 8}, []int{5, 0}},
		// The cells are those of the state that it is at, or of one that is forgotten.
		{1, []int{5, 0}, []int{5, 0, 0}},
		{0, []int{0, 5}, []int{0, 0}},
		{0, []int{5, 0, 7}, []int{5, 0}},
		// As many states as there can be, then or before.
		{8, upTo(1, 9), append(upTo(1, 9), 0)},
		{8, full, append(upTo(1, 9), 0)},
		{0, full, []int{1, 0}},
		{5, full, append(upTo(1, 6), 0)},
	} {
		h := history(c.at, oneCell(c.values...)...)
		if out, ok := impl.CommitCells(g, h, []int{0}); !ok || !sameHistory(out, history(c.at+1, oneCell(c.want...)...)) {
			t.Errorf("CommitCells(%v) = %v, %v; want %v", h, out, ok, c.want)
		}
	}
	// One state too many.
	checkNoCommit(t, g, history(9, oneCell(full...)...), []int{0})
	checkNoCommit(t, g, history(9, oneCell(full...)...), []int{10})
}

func TestInvalidCommits(t *testing.T) {
	for _, g := range validGraphs() {
		for _, list := range invalidCells(g) {
			checkNoCommit(t, g, history(0, evenCells(g, 1)), list)
			checkNoCommit(t, g, history(9, slices.Repeat([][]int{evenCells(g, 1)}, 10)...), list)
		}
	}
}

func TestMoveHistory(t *testing.T) {
	g := switched()
	states := [][]int{{0, 5, 0, 0}, {0, 6, 0, 0}, {1, 6, 0, 0}, {1, 6, 0, 0}, {0, 4, 0, 0}}
	for _, c := range []struct {
		at   int
		by   int
		want []int
	}{
		{0, 0, nil}, {4, 0, nil},
		// The effect does not read the node 2, nor does it change when it is read.
		{0, 1, []int{1, 2}}, {1, -1, []int{1, 2}},
		{1, 1, []int{0, 3}}, {2, -1, []int{0, 3}},
		// Nothing changes.
		{2, 1, nil}, {3, -1, nil},
		// It counts what is other then, not what changes on the way.
		{0, 2, []int{0, 1, 2, 3}}, {0, 4, []int{1, 2}}, {4, -4, []int{1, 2}}, {3, -2, []int{0, 3}}, {1, 3, []int{1, 2}}, {3, 1, []int{0, 1, 2, 3}},
	} {
		h := history(c.at, states...)
		if out, changed, ok := impl.MoveHistory(g, h, c.by); !ok || !sameHistory(out, history(c.at+c.by, states...)) || !slices.Equal(changed, c.want) {
			t.Errorf("MoveHistory(%v, %d) = %v, %v, %v; want %v", h, c.by, out, changed, ok, c.want)
		}
	}
}

func TestMovesBeyondTheEnds(t *testing.T) {
	g := switched()
	for count := range impl.MaxStates {
		states := slices.Repeat([][]int{evenCells(g, 1)}, count+1)
		for at := range states {
			for _, by := range []int{-at - 1, -at - 2, count - at + 1, count - at + 2, -11, 11, math.MaxInt, math.MinInt, math.MaxInt - at, math.MinInt + at, math.MinInt - at + count} {
				checkNoMove(t, g, history(at, states...), by)
			}
		}
	}
}

func TestWhyChanged(t *testing.T) {
	// A node that reads the last cell ahead of the others, and two that are between cells.
	crossed := graph(cell(), cell(), derived(read(1)), derived(read(2), read(0), op(impl.PaAdd, 0, 1)), effect(read(3), read(1), op(impl.PaMax, 0, 1)))
	shielded := graph(cell(), cell(), derived(read(0), num(10), op(impl.PaMin, 0, 1)), derived(read(2), read(1), op(impl.PaAdd, 0, 1)))
	for _, c := range []struct {
		g    impl.Graph
		a    []int
		b    []int
		n    int
		want []int
	}{
		{diamond(), []int{5, 0, 0, 0, 0}, []int{6, 0, 0, 0, 0}, 4, []int{0, 1, 3, 4}},
		{diamond(), []int{5, 0, 0, 0, 0}, []int{6, 0, 0, 0, 0}, 2, []int{0, 2}},
		{diamond(), []int{5, 0, 0, 0, 0}, []int{6, 0, 0, 0, 0}, 0, []int{0}},
		// The value of the node 2 is found with another cell, and is the same.
		{diamond(), []int{5, 0, 0, 0, 0}, []int{505, 0, 0, 0, 0}, 3, []int{0, 1, 3}},
		{diamond(), []int{5, 0, 0, 0, 0}, []int{505, 0, 0, 0, 0}, 2, nil},
		// What is read with a counts: the cell 0 and the node 2, or the cell 0 alone.
		{switched(), []int{1, 5, 0, 0}, []int{1, 6, 0, 0}, 3, []int{1, 2, 3}},
		{switched(), []int{1, 5, 0, 0}, []int{0, 6, 0, 0}, 3, []int{0, 3}},
		{switched(), []int{0, 5, 0, 0}, []int{1, 6, 0, 0}, 3, []int{0, 3}},
		{switched(), []int{0, 5, 0, 0}, []int{0, 6, 0, 0}, 3, nil},
		{switched(), []int{1, 5, 0, 0}, []int{2, 5, 0, 0}, 3, nil},
		{switched(), []int{2, 5, 0, 0}, []int{1, 6, 0, 0}, 3, []int{0, 3}},
		// The least node that is read, not the one that is read first, and the least one at each step, not of the whole list.
		{crossed, []int{1, 1, 0, 0, 0}, []int{2, 2, 0, 0, 0}, 3, []int{0, 3}},
		{crossed, []int{1, 1, 0, 0, 0}, []int{1, 2, 0, 0, 0}, 3, []int{1, 2, 3}},
		{crossed, []int{1, 1, 0, 0, 0}, []int{2, 2, 0, 0, 0}, 4, []int{1, 4}},
		{crossed, []int{1, 1, 0, 0, 0}, []int{2, 1, 0, 0, 0}, 4, []int{0, 3, 4}},
		// A node that is read and does not change, although one behind it does.
		{shielded, []int{20, 1, 0, 0}, []int{30, 2, 0, 0}, 3, []int{1, 3}},
		{shielded, []int{20, 1, 0, 0}, []int{30, 2, 0, 0}, 2, nil},
		{shielded, []int{20, 1, 0, 0}, []int{9, 2, 0, 0}, 3, nil},
		{shielded, []int{20, 1, 0, 0}, []int{8, 2, 0, 0}, 3, []int{1, 3}},
		{shielded, []int{20, 1, 0, 0}, []int{8, 1, 0, 0}, 3, []int{0, 2, 3}},
		// Cells that changed, and cells that did not.
		{shielded, []int{20, 1, 0, 0}, []int{20, 2, 0, 0}, 0, nil},
		{shielded, []int{20, 1, 0, 0}, []int{20, 2, 0, 0}, 1, []int{1}},
		{ladder(), append([]int{3}, make([]int, 9)...), append([]int{4}, make([]int, 9)...), 9, upTo(0, 9)},
		{graph(effect(num(3))), []int{0}, []int{0}, 0, nil},
	} {
		if way := impl.WhyChanged(c.g, c.a, c.b, c.n); !slices.Equal(way, c.want) {
			t.Errorf("WhyChanged(%v, %v, %v, %d) = %v; want %v", c.g, c.a, c.b, c.n, way, c.want)
		}
		if way := impl.WhyChanged(c.g, c.a, c.a, c.n); len(way) != 0 {
			t.Errorf("WhyChanged(%v, %v, %v, %d) = %v", c.g, c.a, c.a, c.n, way)
		}
	}
}

// checkNoWhy checks that there is nothing to tell of a change for arguments that are not valid.
func checkNoWhy(t *testing.T, g impl.Graph, a []int, b []int, n int) {
	t.Helper()
	if way := impl.WhyChanged(g, a, b, n); len(way) != 0 {
		t.Errorf("WhyChanged(%v, %v, %v, %d) = %v", g, a, b, n, way)
	}
}

func TestWhyOfInvalidArguments(t *testing.T) {
	for _, g := range validGraphs() {
		a, b := evenCells(g, 1), evenCells(g, 2)
		for _, n := range []int{-1, -2, len(g.Nodes), len(g.Nodes) + 1, 100, math.MaxInt, math.MinInt} {
			checkNoWhy(t, g, a, b, n)
		}
		for _, list := range invalidCells(g) {
			for n := range g.Nodes {
				checkNoWhy(t, g, a, list, n)
				checkNoWhy(t, g, list, b, n)
				checkNoWhy(t, g, list, list, n)
			}
		}
	}
	for _, g := range invalidGraphs() {
		for n := range min(12, len(g.Nodes)+1) {
			checkNoWhy(t, g, evenCells(g, 1), evenCells(g, 2), n)
		}
	}
}

func TestFormulaTexts(t *testing.T) {
	for _, c := range []struct {
		f    impl.Formula
		want string
	}{
		{formula(num(0)), "0"},
		{formula(num(9)), "9"},
		{formula(num(10)), "10"},
		{formula(num(99)), "99"},
		{formula(read(0)), "r0"},
		{formula(read(9)), "r9"},
		{formula(num(1), read(2), op(impl.PaAdd, 0, 1)), "1 r2 add"},
		{formula(num(1), read(2), op(impl.PaSub, 0, 1)), "1 r2 sub"},
		{formula(num(1), read(2), op(impl.PaMul, 0, 1)), "1 r2 mul"},
		{formula(num(1), read(2), op(impl.PaMin, 0, 1)), "1 r2 min"},
		{formula(num(1), read(2), op(impl.PaMax, 0, 1)), "1 r2 max"},
		{formula(num(1), read(2), op(impl.PaLess, 0, 1)), "1 r2 less"},
		{formula(num(1), read(2), num(3), when(0, 1, 2)), "1 r2 3 if"},
		// Parts within others, to the left and to the right.
		{formula(num(1), num(2), op(impl.PaAdd, 0, 1), num(3), op(impl.PaSub, 2, 3)), "1 2 add 3 sub"},
		{formula(num(1), num(2), num(3), op(impl.PaAdd, 1, 2), op(impl.PaSub, 0, 3)), "1 2 3 add sub"},
		{formula(num(1), num(2), num(3), num(4), when(1, 2, 3), num(5), when(0, 4, 5)), "1 2 3 4 if 5 if"},
		{longest(), "r0 r0 add r0 add r0 add r0 add 1 2 if"},
	} {
		if s := impl.FormatFormula(c.f); s != c.want {
			t.Errorf("FormatFormula(%v) = %q; want %q", c.f, s, c.want)
		}
		if f, ok := impl.ParseFormula(c.want); !ok || !slices.Equal(f.Parts, c.f.Parts) {
			t.Errorf("ParseFormula(%q) = %v, %v; want %v", c.want, f, ok, c.f)
		}
	}
	// Parts that are not in order are written in order.
	for _, c := range []struct {
		f    impl.Formula
		want string
	}{
		{formula(num(1), read(2), op(impl.PaSub, 1, 0)), "r2 1 sub"},
		{formula(num(1), read(2), num(3), when(2, 0, 1)), "3 1 r2 if"},
		{formula(num(1), num(2), num(3), op(impl.PaAdd, 0, 2), op(impl.PaLess, 1, 3)), "2 1 3 add less"},
		{formula(num(1), num(2), num(3), num(4), op(impl.PaMax, 3, 0), op(impl.PaMin, 1, 2), op(impl.PaMul, 5, 4)), "2 3 min 4 1 max mul"},
	} {
		if s := impl.FormatFormula(c.f); s != c.want {
			t.Errorf("FormatFormula(%v) = %q; want %q", c.f, s, c.want)
		}
	}
	for _, f := range invalidFormulas() {
		if s := impl.FormatFormula(f); s != "" {
			t.Errorf("FormatFormula(%v) = %q", f, s)
		}
	}
}

// checkNoFormula checks that a text is that of no formula.
func checkNoFormula(t *testing.T, s string) {
	t.Helper()
	if f, ok := impl.ParseFormula(s); ok || !isZero(f) {
		t.Errorf("ParseFormula(%q) = %v, %v", s, f, ok)
	}
}

// oddNumbers returns words that are no numbers in decimal as they are written, or no small ones.
func oddNumbers() []string {
	return []string{
		"", "00", "01", "007", "000", "-0", "-1", "+1", "+0", "1.0", "1e1", "0x1", "0b1", "1_0", "_1", "1,0", "a", "1a", "a1", "--1", "1-", "1\n", "\t1", "\x001", "1\x00", "\xff", "1\xff",
		"\u0661", "\uff11", "10000", "2147483648", "4294967296", "9223372036854775807", "9223372036854775808", "18446744073709551616", "18446744073709551617", strings.Repeat("9", 1000), strings.Repeat("0", 1000),
	}
}

func TestTextsOfNoFormula(t *testing.T) {
	for _, word := range append(oddNumbers(), "100", "999", "1000") {
		checkNoFormula(t, word)
		checkNoFormula(t, word+" 1 add")
		checkNoFormula(t, "1 "+word+" add")
	}
	for _, word := range append(oddNumbers(), "10", "99", "100", "r1", " 1") {
		checkNoFormula(t, "r"+word)
		checkNoFormula(t, "1 r"+word+" add")
	}
	for _, s := range []string{
		// No words, and spaces at other places.
		"", " ", "  ", " 1", "1 ", "1  2 add", "1 2  add", " 1 2 add", "1 2 add ", "1\t2\tadd", "1\n2 add", "1 2 add\n", "1 2 add\r", "1\u00a02 add", "1,2,add",
		// Too few and too many words.
		"add", "less", "if", "1 add", "1 if", "1 2 if", "add 1 2", "1 add 2", "1 2", "1 2 3", "r1 r2", "1 2 add 3", "1 2 3 add", "1 2 add add", "1 2 add sub", "1 2 3 4 if", "1 2 add if", "1 2 3 if if",
		// Words of no part.
		"R1", "Add", "ADD", "1 2 Add", "1 2 plus", "1 2 +", "1 2 ad", "1 2 addd", "1 2 les", "1 2 les s", "1 2 3 iff", "1 2 3 If", "1 2 num", "read", "1 2 read", "num", "rr1", "r 1", "r1r2", "1r", "1 2add", "12 add", "1 2 subadd", "1 2 add\x00", "1 2 \xffadd",
	} {
		checkNoFormula(t, s)
	}
	// One part too many, and many more.
	twelve := "r0 r0 add r0 add r0 add r0 add 1 2 if"
	if _, ok := impl.ParseFormula(twelve); !ok {
		t.Errorf("not parsed: %q", twelve)
	}
	checkNoFormula(t, "1"+strings.Repeat(" 2 add", 6))
	checkNoFormula(t, "r0 r0 add r0 add r0 add r0 add 1 2 3 if add")
	checkNoFormula(t, "1"+strings.Repeat(" 2 add", 100000))
	checkNoFormula(t, strings.Repeat("1 ", 100000)+"1"+strings.Repeat(" add", 100000))
	checkNoFormula(t, strings.Repeat(" ", 100000))
}

func TestGraphTexts(t *testing.T) {
	for _, c := range []struct {
		g    impl.Graph
		list []int
		want string
	}{
		{impl.Graph{}, nil, ""},
		{graph(cell()), []int{0}, "cell 0\n"},
		{graph(cell()), []int{9}, "cell 9\n"},
		{graph(cell()), []int{10}, "cell 10\n"},
		{graph(cell()), []int{100}, "cell 100\n"},
		{graph(cell()), []int{999}, "cell 999\n"},
		{graph(derived(num(0))), []int{0}, "derived 0\n"},
		{graph(effect(num(99))), []int{0}, "effect 99\n"},
		{graph(cells(3)...), []int{1, 0, 30}, "cell 1\ncell 0\ncell 30\n"},
		{diamond(), []int{5, 0, 0, 0, 0}, "cell 5\nderived r0 1 add\nderived r0 2 mul\nderived r1 r2 add\neffect r3\n"},
		{switched(), []int{0, 40, 0, 0}, "cell 0\ncell 40\nderived r1 3 add\neffect r0 r2 7 if\n"},
		{graph(effect(num(1)), effect(num(2)), cell(), derived(read(2)), cell()), []int{0, 0, 7, 0, 8}, "effect 1\neffect 2\ncell 7\nderived r2\ncell 8\n"},
		{graph(cells(10)...), upTo(0, 9), "cell 0\ncell 1\ncell 2\ncell 3\ncell 4\ncell 5\ncell 6\ncell 7\ncell 8\ncell 9\n"},
		{graph(append(cells(9), effect(read(8)))...), make([]int, 10), strings.Repeat("cell 0\n", 9) + "effect r8\n"},
	} {
		if s := impl.FormatGraph(c.g, c.list); s != c.want {
			t.Errorf("FormatGraph(%v, %v) = %q; want %q", c.g, c.list, s, c.want)
		}
		if g, list, ok := impl.ParseGraph(c.want); !ok || !sameGraph(g, c.g) || !slices.Equal(list, c.list) {
			t.Errorf("ParseGraph(%q) = %v, %v, %v; want %v, %v", c.want, g, list, ok, c.g, c.list)
		}
	}
	// Parts that are not in order are written in order.
	if s := impl.FormatGraph(loose(), evenCells(loose(), 1)); !strings.Contains(s, "\nderived r3 r6 add\n") {
		t.Errorf("FormatGraph = %q", s)
	}
	for _, g := range validGraphs() {
		for _, list := range invalidCells(g) {
			if s := impl.FormatGraph(g, list); s != "" {
				t.Errorf("FormatGraph(%v, %v) = %q", g, list, s)
			}
		}
	}
	for _, g := range invalidGraphs() {
		for _, list := range [][]int{nil, evenCells(g, 0), evenCells(g, 7)} {
			if s := impl.FormatGraph(g, list); s != "" {
				t.Errorf("FormatGraph(%v, %v) = %q", g, list, s)
			}
		}
	}
}

// checkNoGraph checks that a text is that of no graph, and that a desk answers each line about it by wrong.
func checkNoGraph(t *testing.T, s string) {
	t.Helper()
	if g, list, ok := impl.ParseGraph(s); ok || len(g.Nodes) != 0 || len(list) != 0 {
		t.Errorf("ParseGraph(%q) = %v, %v, %v", s, g, list, ok)
	}
	if out := impl.RunDesk(s, []string{"values", "", "what", "set 0 1"}); out != "wrong\nwrong\nwrong\nwrong\n" {
		t.Errorf("RunDesk(%q) = %q", s, out)
	}
}

func TestTextsOfNoGraph(t *testing.T) {
	for _, word := range append(oddNumbers(), "1000", "9999", "r0", "1 ", " 1", "1 2", "1 r0") {
		checkNoGraph(t, "cell "+word+"\n")
		checkNoGraph(t, "cell 1\ncell "+word+"\n")
	}
	for _, word := range append(oddNumbers(), "100", "r1", "r10", "r00", "r0 ", " r0", "r0 1", "add", "r0 add", "r0 2 add add", "cell", "derived r0", "1"+strings.Repeat(" 2 add", 6)) {
		checkNoGraph(t, "cell 0\nderived "+word+"\n")
		checkNoGraph(t, "cell 0\neffect "+word+"\n")
	}
	for _, s := range []string{
		// Lines without an end, without words, or with others.
		"cell 5", "cell 5\ncell 6", "\n", "\n\n", " \n", "cell 5\n\n", "\ncell 5\n", "cell 5\n\ncell 6\n", "cell 5\n ", "cell 5\r\n", "cell 5\rcell 6\n", "cell 5 cell 6\n", "cell 5\ncell", "x", "x\n", "\x00", "\xff\n",
		"cell\n", "cell \n", "derived\n", "derived \n", "effect\n", "effect \n", "cell", "derived", "effect", " cell 5\n", "cell  5\n", "cell 5 \n", "cell\t5\n", "cell\n5\n", "5\n", "5 cell\n",
		"node 5\n", "Cell 5\n", "CELL 5\n", "cel 5\n", "cells 5\n", "cell5\n", "read 5\n", "derive 5\n", "Derived 5\n", "derived5\n", "effects 5\n", "effec 5\n", "Effect 5\n", "set 0 1\n", "\xffcell 5\n", "0 5\n",
		// Nodes that are not ahead, or effects.
		"derived r0\n", "effect r0\n", "cell 5\nderived r1\n", "cell 5\nderived r2\ncell 6\n", "derived r1\ncell 5\n", "cell 5\neffect r0\nderived r1\n", "cell 5\neffect r0\neffect 1 r0 r1 if\n", "effect 1\neffect r0\n",
		// Too many nodes.
		strings.Repeat("cell 0\n", 11), strings.Repeat("derived 1\n", 11), strings.Repeat("cell 0\n", 10) + "effect r0\n", strings.Repeat("cell 0\n", 10000),
		// A line that is wrong, but not the last one.
		"cell 1000\ncell 1\n", "derived add\ncell 1\n", "x\neffect 1\n",
	} {
		checkNoGraph(t, s)
	}
}

// checkDesk checks the answers to lines, which are told each with its answer.
func checkDesk(t *testing.T, s string, talk ...[2]string) {
	t.Helper()
	var lines, answers []string
	for _, x := range talk {
		lines = append(lines, x[0])
		answers = append(answers, x[1])
	}
	if out := impl.RunDesk(s, lines); out != textOf(answers) {
		t.Errorf("RunDesk(%q, %q) = %q; want %q", s, lines, out, textOf(answers))
	}
}

const (
	diamondText  = "cell 5\nderived r0 1 add\nderived r0 2 mul\nderived r1 r2 add\neffect r3\n"
	switchedText = "cell 0\ncell 40\nderived r1 3 add\neffect r0 r2 7 if\n"
)

func TestRunDesk(t *testing.T) {
	checkDesk(t, diamondText, [][2]string{
		// Nothing ran in the lazy machine yet, but all in the eager one.
		{"values", "5 6 10 16 16"}, {"stale", "1 2 3 4"},
		{"get 0", "5"}, {"get 2", "10 2"}, {"get 2", "10"}, {"stale", "1 3 4"}, {"get 4", "16 1 3 4"}, {"stale", ""},
		{"set 0 6", "1 2 3 4"}, {"stale", "1 2 3 4"}, {"get 1", "7 1"}, {"stale", "2 3 4"}, {"get 4", "19 2 3 4"}, {"values", "6 7 12 19 19"},
		// A value that is there already, and one that changes all but the node 2.
		{"set 0 6", ""}, {"stale", ""}, {"set 0 506", "1 2 3 4"}, {"get 4", "519 1 2 3 4"}, {"values", "506 507 12 519 519"},
	}...)
	checkDesk(t, switchedText, [][2]string{
		{"get 3", "7 3"}, {"stale", "2"}, {"values", "0 40 43 7"},
		// The eager machine runs a node that nobody reads, and the lazy one does not.
		{"set 1 50", "2"}, {"stale", "2"}, {"get 3", "7"}, {"set 0 1", "3"}, {"stale", "2 3"}, {"get 3", "53 2 3"}, {"values", "1 50 53 53"},
		{"set 0 2", "3"}, {"get 3", "53 3"}, {"set 0 0", "3"}, {"set 0 1", "3"}, {"get 3", "53 3"},
		{"set 0 999", "3"}, {"set 1 999", "2 3"}, {"get 1", "999"}, {"values", "999 999 2 2"},
	}...)
	// What is written back need not run in the lazy machine, but is marked.
	checkDesk(t, "cell 5\nderived r0 10 min\neffect r1\n", [][2]string{
		{"get 2", "5 1 2"}, {"set 0 6", "1 2"}, {"set 0 5", "1 2"}, {"stale", "1 2"}, {"get 2", "5 1"}, {"stale", ""},
		{"set 0 10", "1 2"}, {"set 0 20", "1"}, {"values", "20 10 10"}, {"get 2", "10 1 2"}, {"set 0 30", "1"}, {"get 2", "10 1"},
	}...)
}

func TestDeskWithoutMuchToTell(t *testing.T) {
	// A graph without nodes has no values.
	checkDesk(t, "", [][2]string{{"values", ""}, {"stale", ""}, {"get 0", "what"}, {"set 0 1", "what"}, {"get -1", "what"}, {"", "what"}}...)
	checkDesk(t, "cell 0\n", [][2]string{{"values", "0"}, {"stale", ""}, {"get 0", "0"}, {"set 0 0", ""}, {"set 0 7", ""}, {"get 0", "7"}, {"values", "7"}}...)
	checkDesk(t, "derived 7\n", [][2]string{{"values", "7"}, {"stale", "0"}, {"get 0", "7 0"}, {"get 0", "7"}, {"stale", ""}, {"set 0 7", "what"}}...)
	checkDesk(t, strings.Repeat("cell 0\n", 10), [][2]string{{"set 9 5", ""}, {"set 10 5", "what"}, {"get 9", "5"}, {"get 10", "what"}, {"get 09", "what"}, {"values", "0 0 0 0 0 0 0 0 0 5"}}...)
	for _, s := range []string{"", diamondText, "x"} {
		if out := impl.RunDesk(s, nil); out != "" {
			t.Errorf("RunDesk(%q) without lines = %q", s, out)
		}
	}
}

func TestLinesOfADesk(t *testing.T) {
	for _, word := range append(oddNumbers(), "1000", "r1", "x", "1 ", " 1", "1 1") {
		// Some of these are no number, and the others no value. The state is as before then.
		checkDesk(t, diamondText, [][2]string{{"set 0 " + word, "what"}, {"values", "5 6 10 16 16"}, {"get 0", "5"}}...)
	}
	for _, word := range append(oddNumbers(), "5", "10", "x", "r0", "0 ", " 0", "0 0") {
		checkDesk(t, diamondText, [][2]string{{"set " + word + " 1", "what"}, {"get " + word, "what"}, {"stale", "1 2 3 4"}, {"values", "5 6 10 16 16"}}...)
	}
	for n := 1; n < 5; n++ {
		// Nodes that are no cells are read, but not written.
		line := strconv.Itoa(n)
		checkDesk(t, diamondText, [][2]string{{"set " + line + " 6", "what"}, {"set " + line + " 0", "what"}, {"stale", "1 2 3 4"}, {"values", "5 6 10 16 16"}}...)
	}
	for _, line := range []string{
		"", " ", "  ", "\n", "x", "what", "wrong", "help", "set", "get", "set ", "get ", "set  ", "set 0", "set 0 ", "set  1", "set 0  1", " set 0 1", "set 0 1 ", "set 0 1\n", "set 0 1 2", "set 0 1 1", "set\t0\t1", "set0 1", "set 01", "Set 0 1", "SET 0 1", "sets 0 1", "write 0 1",
		"get  0", " get 0", "get 0 ", "get 0\n", "get 0 1", "get 0 0", "get\t0", "get0", "Get 0", "GET 0", "gets 0", "read 0", "get values", "get r0", "0", "0 get", "1 0 set",
		"value", "values ", " values", "values\n", "Values", "VALUES", "values 0", "valuesvalues", "values stale", "stale ", " stale", "stale\n", "Stale", "stale 0", "stales", "cell 5", "\x00", "\xff", "values\x00", "\xffvalues", "set 0 1\nget 0", "values\nvalues",
	} {
		checkDesk(t, diamondText, [][2]string{{line, "what"}, {"values", "5 6 10 16 16"}, {"stale", "1 2 3 4"}}...)
		checkDesk(t, "", [2]string{line, "what"})
		checkDesk(t, "x", [2]string{line, "wrong"})
	}
	checkDesk(t, diamondText, [2]string{strings.Repeat("values ", 10000), "what"}, [2]string{strings.Repeat(" ", 10000), "what"})
}

func TestLinesThatAreTooMany(t *testing.T) {
	for _, s := range []string{"", diamondText, switchedText, "x", "cell 05\n"} {
		lines := slices.Repeat([]string{"stale"}, 20)
		if out := impl.RunDesk(s, lines); strings.Count(out, "\n") != 20 {
			t.Errorf("RunDesk(%q) of 20 lines = %q", s, out)
		}
		for _, line := range []string{"stale", "values", "", "x"} {
			if out := impl.RunDesk(s, append(lines, line)); out != "" {
				t.Errorf("RunDesk(%q) of 21 lines = %q", s, out)
			}
		}
		if out := impl.RunDesk(s, make([]string, 1000)); out != "" {
			t.Errorf("RunDesk(%q) of 1000 lines = %q", s, out)
		}
	}
	if out := impl.RunDesk("x", slices.Repeat([]string{"values"}, 20)); out != strings.Repeat("wrong\n", 20) {
		t.Errorf("RunDesk = %q", out)
	}
}
