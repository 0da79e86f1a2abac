package tests

import (
	"math/rand"
	"regexp"
	"slices"
	"strconv"
	"strings"

	"loop.example/signalgraph/impl"
)

// history returns a history that is at one of its states.
func history(at int, states ...[]int) impl.History {
	return impl.History{States: states, At: at}
}

func sameHistory(a impl.History, b impl.History) bool {
	return a.At == b.At && sameLists(a.States, b.States)
}

func isNoHistory(h impl.History) bool {
	return h.At == 0 && len(h.States) == 0
}

// randomHistory returns a valid history of a graph, often a full one, and often at one of its ends.
func randomHistory(r *rand.Rand, g impl.Graph) impl.History {
	h := history(0, randomCells(r, g))
	for range []int{0, r.Intn(impl.MaxStates), r.Intn(impl.MaxStates), impl.MaxStates - 1}[r.Intn(4)] {
		h.States = append(h.States, otherCells(r, g, h.States[len(h.States)-1]))
	}
	last := len(h.States) - 1
	h.At = []int{0, last, r.Intn(last + 1), r.Intn(last + 1)}[r.Intn(4)]
	return h
}

// historyTries calls a function with valid histories of graphs, the same ones each time.
func historyTries(check func(r *rand.Rand, g impl.Graph, h impl.History)) {
	r := rand.New(rand.NewSource(12))
	for range 800 {
		g := randomGraph(r)
		check(r, g, randomHistory(r, g))
		g = watchedGraph(r)
		check(r, g, randomHistory(r, g))
	}
}

// wantedChanges returns the nodes whose values differ, told by the parts of formulas.
func wantedChanges(g impl.Graph, a []int, b []int) []int {
	before, _ := meant(g, a)
	after, _ := meant(g, b)
	return nodesThat(g, func(n int) bool { return before[n] != after[n] })
}

// waysOfChange returns all ways on which a change may have come to a node, told from the node down to a cell.
func waysOfChange(g impl.Graph, n int, changed []int, reads [][]int) [][]int {
	if !slices.Contains(changed, n) {
		return nil
	}
	if g.Nodes[n].Kind == impl.NdCell {
		return [][]int{{n}}
	}
	var ways [][]int
	for _, ahead := range reads[n] {
		for _, way := range waysOfChange(g, ahead, changed, reads) {
			ways = append(ways, append([]int{n}, way...))
		}
	}
	return ways
}

// changeWays returns all ways of a change from the cells a to the cells b to a node.
func changeWays(g impl.Graph, a []int, b []int, n int) [][]int {
	_, reads := meant(g, a)
	return waysOfChange(g, n, wantedChanges(g, a, b), reads)
}

// wantedWhy returns why a value is another one, found among all ways: told from the node down, it is the first one in the order of lists.
func wantedWhy(g impl.Graph, a []int, b []int, n int) []int {
	ways := changeWays(g, a, b, n)
	if len(ways) == 0 {
		return nil
	}
	return reversed(slices.MinFunc(ways, slices.Compare[[]int]))
}

// partWords returns the words of the kinds of parts that have others below them.
func partWords() map[int]string {
	return map[int]string{
		impl.PaAdd: "add", impl.PaSub: "sub", impl.PaMul: "mul", impl.PaMin: "min", impl.PaMax: "max", impl.PaLess: "less", impl.PaIf: "if",
	}
}

// wantedText returns the text of a part and all below it.
func wantedText(parts []impl.Part, i int) string {
	p := parts[i]
	switch p.Kind {
	case impl.PaNum:
		return strconv.Itoa(p.N)
	case impl.PaRead:
		return "r" + strconv.Itoa(p.N)
	}
	text := wantedText(parts, p.A) + " " + wantedText(parts, p.B) + " "
	if p.Kind == impl.PaIf {
		text += wantedText(parts, p.C) + " "
	}
	return text + partWords()[p.Kind]
}

var (
	numberWord = regexp.MustCompile(`^(0|[1-9][0-9]?)$`)
	readWord   = regexp.MustCompile(`^r[0-9]$`)
	nodeLine   = regexp.MustCompile(`^(cell|derived|effect) ([a-z0-9 ]*)$`)
	cellNumber = regexp.MustCompile(`^(0|[1-9][0-9]{0,2})$`)
	setLine    = regexp.MustCompile(`^set ([0-9]) (0|[1-9][0-9]{0,2})$`)
	getLine    = regexp.MustCompile(`^get ([0-9])$`)
)

// digits returns the number that a word ends with.
func digits(word string) int {
	n, err := strconv.Atoi(strings.TrimPrefix(word, "r"))
	if err != nil {
		panic(err)
	}
	return n
}

// takeParts returns the parts of the last whole formula of some words, and the words ahead of it. It is read from the last word on.
func takeParts(words []string) ([]impl.Part, []string, bool) {
	if len(words) == 0 {
		return nil, nil, false
	}
	last := len(words) - 1
	word, rest := words[last], words[:last]
	switch {
	case numberWord.MatchString(word):
		return []impl.Part{num(digits(word))}, rest, true
	case readWord.MatchString(word):
		return []impl.Part{read(digits(word))}, rest, true
	}
	for kind, x := range partWords() {
		if x == word {
			return takeOver(kind, rest)
		}
	}
	return nil, nil, false
}

// takeOver returns the parts of a formula of a kind whose word was taken, and the words ahead of it.
func takeOver(kind int, words []string) ([]impl.Part, []string, bool) {
	count := 2
	if kind == impl.PaIf {
		count = 3
	}
	below := make([][]impl.Part, count)
	for i := count - 1; i >= 0; i-- {
		ok := false
		if below[i], words, ok = takeParts(words); !ok {
			return nil, nil, false
		}
	}
	var parts []impl.Part
	ends := []int{-1, -1, -1}
	for i, list := range below {
		parts = append(parts, behind(list, len(parts))...)
		ends[i] = len(parts) - 1
	}
	return append(parts, impl.Part{Kind: kind, A: ends[0], B: ends[1], C: ends[2]}), words, true
}

// wantedFormula returns the formula of a text.
func wantedFormula(s string) (impl.Formula, bool) {
	words := strings.Split(s, " ")
	parts, rest, ok := takeParts(words)
	if !ok || len(rest) > 0 || len(words) > 12 {
		return impl.Formula{}, false
	}
	return formula(parts...), true
}

// wantedGraphText returns the text of a graph with cells.
func wantedGraphText(g impl.Graph, list []int) string {
	var text strings.Builder
	for i, n := range g.Nodes {
		parts, last := whole(n.Formula)
		switch n.Kind {
		case impl.NdCell:
			text.WriteString("cell " + strconv.Itoa(list[i]))
		case impl.NdDerived:
			text.WriteString("derived " + wantedText(parts, last))
		default:
			text.WriteString("effect " + wantedText(parts, last))
		}
		text.WriteString("\n")
	}
	return text.String()
}

// wantedGraph returns the graph and the cells of a text.
func wantedGraph(s string) (impl.Graph, []int, bool) {
	var g impl.Graph
	var list []int
	for s != "" {
		line, rest, hasEnd := strings.Cut(s, "\n")
		match := nodeLine.FindStringSubmatch(line)
		if !hasEnd || match == nil {
			return impl.Graph{}, nil, false
		}
		s = rest
		if match[1] == "cell" {
			if !cellNumber.MatchString(match[2]) {
				return impl.Graph{}, nil, false
			}
			g.Nodes = append(g.Nodes, cell())
			list = append(list, digits(match[2]))
			continue
		}
		f, ok := wantedFormula(match[2])
		if !ok {
			return impl.Graph{}, nil, false
		}
		kind := map[string]int{"derived": impl.NdDerived, "effect": impl.NdEffect}[match[1]]
		g.Nodes = append(g.Nodes, impl.Node{Kind: kind, Formula: f})
		list = append(list, 0)
	}
	if !isValidGraph(g) {
		return impl.Graph{}, nil, false
	}
	return g, list, true
}

// joined returns numbers with a space between two of them.
func joined(list []int) string {
	var words []string
	for _, n := range list {
		words = append(words, strconv.Itoa(n))
	}
	return strings.Join(words, " ")
}

// clerk answers the lines of a desk, by the models of both machines.
type clerk struct {
	g    impl.Graph
	list []int
	lazy impl.Lazy
}

func (c *clerk) answer(line string) string {
	if match := setLine.FindStringSubmatch(line); match != nil {
		n, value := digits(match[1]), digits(match[2])
		if !slices.Contains(cellsOfGraph(c.g), n) {
			return "what"
		}
		w := write{g: c.g, list: c.list, nodes: []int{n}, values: []int{value}}
		c.list = w.after()
		c.lazy = wantedWrite(c.lazy, n, value)
		return joined(w.eagerRuns())
	}
	if match := getLine.FindStringSubmatch(line); match != nil {
		n := digits(match[1])
		if n >= len(c.g.Nodes) {
			return "what"
		}
		st, ran := wantedRead(c.g, c.lazy, []int{n})
		c.lazy = st
		return joined(append([]int{st.Values[n]}, ran...))
	}
	switch line {
	case "values":
		values, _ := meant(c.g, c.list)
		return joined(values)
	case "stale":
		return joined(nodesThat(c.g, func(n int) bool { return c.lazy.Colours[n] != impl.ClClean }))
	}
	return "what"
}

// wantedAnswers returns the answers to at most MaxDesk lines, one for each.
func wantedAnswers(s string, lines []string) []string {
	g, list, ok := wantedGraph(s)
	if !ok {
		return slices.Repeat([]string{"wrong"}, len(lines))
	}
	c := &clerk{g: g, list: list, lazy: startedState(g, list)}
	var answers []string
	for _, line := range lines {
		answers = append(answers, c.answer(line))
	}
	return answers
}

// textOf returns lines as a text.
func textOf(lines []string) string {
	var text strings.Builder
	for _, line := range lines {
		text.WriteString(line + "\n")
	}
	return text.String()
}

// spoilBytes returns a text with one byte changed, left out, put in, or there twice.
func spoilBytes(r *rand.Rand, s string) string {
	signs := " 0123456789radcelif\n-+\t\r\x00\xff"
	at := r.Intn(len(signs))
	sign := signs[at : at+1]
	if len(s) == 0 {
		return sign
	}
	i := r.Intn(len(s))
	switch r.Intn(4) {
	case 0:
		return s[:i] + s[i+1:]
	case 1:
		return s[:i] + sign + s[i+1:]
	case 2:
		return s[:i] + sign + s[i:]
	}
	return s[:i] + s[i:i+1] + s[i:]
}

// randomWord returns a word of a formula, or one that is nearly one.
func randomWord(r *rand.Rand) string {
	if r.Intn(2) == 0 {
		return []string{"0", "5", "99", "r0", "r1", "r9", "add", "sub", "mul", "min", "max", "less", "if"}[r.Intn(13)]
	}
	return []string{"", "00", "05", "100", "-1", "+1", "r", "r00", "r01", "r10", "r-1", "R1", "Add", "ad", "adds", "iff", "num", "read", "0x1", "1_0", "x", "1.0", "999999999999999999999"}[r.Intn(23)]
}

// spoilWords returns a text with words, or with lines if they are what is between the signs, in other places, left out, or put in.
func spoilWords(r *rand.Rand, s string, sign string, word string) string {
	words := strings.Split(s, sign)
	i, k := r.Intn(len(words)), r.Intn(len(words))
	switch r.Intn(4) {
	case 0:
		words[i], words[k] = words[k], words[i]
	case 1:
		words[i] = word
	case 2:
		words = slices.Insert(words, i, word)
	default:
		words = slices.Delete(words, i, i+1)
	}
	return strings.Join(words, sign)
}

// formulaTextTries calls a function with texts of which some are those of formulas, and the others nearly so, the same ones each time.
func formulaTextTries(check func(s string)) {
	r := rand.New(rand.NewSource(13))
	for range 8000 {
		parts, last := whole(randomFormula(r))
		s := wantedText(parts, last)
		check(s)
		for range 1 + r.Intn(2) {
			if r.Intn(3) == 0 {
				s = spoilBytes(r, s)
			} else {
				s = spoilWords(r, s, " ", randomWord(r))
			}
		}
		check(s)
	}
}

// wordTries calls a function with all texts of one to five words out of some.
func wordTries(check func(s string)) {
	lists := [][]string{nil}
	for range 5 {
		var longer [][]string
		for _, list := range lists {
			for _, word := range []string{"0", "r1", "less", "if", "00", ""} {
				longer = append(longer, slices.Concat(list, []string{word}))
			}
		}
		lists = longer
		for _, list := range lists {
			check(strings.Join(list, " "))
		}
	}
}

// randomGraphText returns the text of a graph with cells, often one in which few nodes are tied to many.
func randomGraphText(r *rand.Rand) string {
	g := []impl.Graph{randomGraph(r), tangledGraph(r), watchedGraph(r)}[r.Intn(3)]
	return wantedGraphText(g, randomCells(r, g))
}

// spoilGraphText returns the text of a graph with some things changed, which may be one still.
func spoilGraphText(r *rand.Rand, s string) string {
	lines := []string{"cell 0", "cell 999", "cell 1000", "cell 07", "cell", "cell 1 ", "cell r0", "derived r0", "derived 00", "derived", "derived ", "effect 5", "effect r9", "effect", "effect add", "node 1", " cell 1", "Cell 1", "", "cell 1 2"}
	for range 1 + r.Intn(2) {
		switch r.Intn(3) {
		case 0:
			s = spoilBytes(r, s)
		case 1:
			s = spoilWords(r, s, "\n", lines[r.Intn(len(lines))])
		default:
			s = spoilWords(r, s, " ", randomWord(r))
		}
	}
	return s
}

// graphTextTries calls a function with texts of which some are those of graphs with cells, and the others nearly so, the same ones each time.
func graphTextTries(check func(s string)) {
	r := rand.New(rand.NewSource(14))
	for range 5000 {
		s := randomGraphText(r)
		check(s)
		check(spoilGraphText(r, s))
	}
}

// randomLine returns a line of a desk that mostly means something for a graph of so many nodes.
func randomLine(r *rand.Rand, nodes int) string {
	n := strconv.Itoa(r.Intn(nodes + 1))
	value := strconv.Itoa([]int{0, 1, 2, r.Intn(impl.Modulus), r.Intn(impl.Modulus), impl.Modulus - 1 + r.Intn(2)}[r.Intn(6)])
	line := []string{"set " + n + " " + value, "set " + n + " " + value, "get " + n, "get " + n, "values", "stale"}[r.Intn(6)]
	switch r.Intn(12) {
	case 0:
		return spoilBytes(r, line)
	case 1:
		return spoilWords(r, line, " ", []string{"set", "get", "0", "00", "01", "1", "", "values", "-1"}[r.Intn(9)])
	}
	return line
}

// randomLines returns lines of a desk, often as many as there can be.
func randomLines(r *rand.Rand, nodes int) []string {
	var lines []string
	for range []int{r.Intn(impl.MaxDesk + 1), impl.MaxDesk}[r.Intn(2)] {
		lines = append(lines, randomLine(r, nodes))
	}
	return lines
}

// deskTries calls a function with texts of graphs, some of them spoiled, and lines of a desk, the same ones each time.
func deskTries(check func(r *rand.Rand, s string, lines []string)) {
	r := rand.New(rand.NewSource(15))
	for range 2500 {
		s := randomGraphText(r)
		lines := randomLines(r, strings.Count(s, "\n"))
		if r.Intn(8) == 0 {
			s = spoilGraphText(r, s)
		}
		check(r, s, lines)
	}
}
