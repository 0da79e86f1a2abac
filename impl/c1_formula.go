package impl

import "slices"

// MaxNodes is the largest number of nodes of a graph.
const MaxNodes = 10

// MaxParts is the largest number of parts of a formula.
const MaxParts = 12

// MaxNumber is the greatest number of a formula.
const MaxNumber = 99

// Modulus is the number by which values are divided.
const Modulus = 1000

// PaNum is a kind of part: a number.
const PaNum = 0

// PaRead is a kind of part: the value of a node.
const PaRead = 1

// PaAdd is a kind of part: a sum.
const PaAdd = 2

// PaSub is a kind of part: a difference.
const PaSub = 3

// PaMul is a kind of part: a product.
const PaMul = 4

// PaMin is a kind of part: the lesser value.
const PaMin = 5

// PaMax is a kind of part: the greater value.
const PaMax = 6

// PaLess is a kind of part: whether a value is less.
const PaLess = 7

// PaIf is a kind of part: one value or another one.
const PaIf = 8

// Part is a part of a formula: its kind, the parts below it, and its number.
type Part struct {
	Kind int
	A    int
	B    int
	C    int
	N    int
}

// Formula is a formula of parts, the last one of which is the whole of it.
type Formula struct {
	Parts []Part
}

// partsBelow returns what a part has as the indices of parts below it, and whether its other fields fit its kind.
func partsBelow(p Part) ([]int, bool) {
	switch p.Kind {
	case PaNum:
		return nil, hasNoneBelow(p) && inRange(p.N, MaxNumber)
	case PaRead:
		return nil, hasNoneBelow(p) && inRange(p.N, MaxNodes-1)
	case PaAdd, PaSub, PaMul, PaMin, PaMax, PaLess:
		return []int{p.A, p.B}, p.C == -1 && p.N == 0
	case PaIf:
		return []int{p.A, p.B, p.C}, p.N == 0
	}
	return nil, false
}

func hasNoneBelow(p Part) bool {
	return p.A == -1 && p.B == -1 && p.C == -1
}

// inRange reports whether n is in 0..most.
func inRange(n int, most int) bool {
	return n >= 0 && n <= most
}

// allInRange reports whether a list has at most MaxNodes numbers, each in 0..most.
func allInRange(list []int, most int) bool {
	if len(list) > MaxNodes {
		return false
	}
	for _, n := range list {
		if !inRange(n, most) {
			return false
		}
	}
	return true
}

// ValidFormula reports whether a formula is valid.
func ValidFormula(f Formula) bool {
	if len(f.Parts) < 1 || len(f.Parts) > MaxParts {
		return false
	}
	var used [MaxParts]bool
	uses := 0
	for i, p := range f.Parts {
		below, ok := partsBelow(p)
		if !ok {
			return false
		}
		for _, b := range below {
			if !inRange(b, i-1) || used[b] {
				return false
			}
			used[b] = true
			uses++
		}
	}
	// No part is below two others, so this counts the parts that are below one.
	return uses == len(f.Parts)-1
}

// term is a part of a valid formula together with all parts below it.
type term interface {
	below() []term
	// part returns the part itself, for parts below it at the given indices.
	part(at []int) Part
}

type number struct {
	value int
}

type reading struct {
	node int
}

type pair struct {
	kind  int
	left  term
	right term
}

type choice struct {
	test  term
	then  term
	other term
}

func (t number) below() []term  { return nil }
func (t reading) below() []term { return nil }
func (t pair) below() []term    { return []term{t.left, t.right} }
func (t choice) below() []term  { return []term{t.test, t.then, t.other} }

func (t number) part(at []int) Part {
	return Part{Kind: PaNum, A: -1, B: -1, C: -1, N: t.value}
}

func (t reading) part(at []int) Part {
	return Part{Kind: PaRead, A: -1, B: -1, C: -1, N: t.node}
}

func (t pair) part(at []int) Part {
	return Part{Kind: t.kind, A: at[0], B: at[1], C: -1}
}

func (t choice) part(at []int) Part {
	return Part{Kind: PaIf, A: at[0], B: at[1], C: at[2]}
}

// wholeOf returns the term of a valid formula.
func wholeOf(f Formula) term {
	return termAt(f.Parts, len(f.Parts)-1)
}

func termAt(parts []Part, i int) term {
	p := parts[i]
	switch p.Kind {
	case PaNum:
		return number{p.N}
	case PaRead:
		return reading{p.N}
	case PaIf:
		return choice{termAt(parts, p.A), termAt(parts, p.B), termAt(parts, p.C)}
	}
	return pair{p.Kind, termAt(parts, p.A), termAt(parts, p.B)}
}

// formulaOf returns the formula of a term, with its parts in order.
func formulaOf(t term) Formula {
	return Formula{Parts: appendParts(nil, t)}
}

func appendParts(parts []Part, t term) []Part {
	var at []int
	for _, b := range t.below() {
		parts = appendParts(parts, b)
		at = append(at, len(parts)-1)
	}
	return append(parts, t.part(at))
}

// hasEach reports whether a list, told by its indices, has something for each node of a valid formula.
func hasEach(f Formula, list []int) bool {
	for _, p := range f.Parts {
		if p.Kind == PaRead && p.N >= len(list) {
			return false
		}
	}
	return true
}

func canEvaluate(f Formula, values []int) bool {
	return ValidFormula(f) && allInRange(values, Modulus-1) && hasEach(f, values)
}

// evaluate returns the value of a term. It looks nodes up in the order in which they are read, and no others.
func evaluate(t term, look func(node int) int) int {
	switch x := t.(type) {
	case number:
		return x.value
	case reading:
		return look(x.node)
	case pair:
		left := evaluate(x.left, look)
		right := evaluate(x.right, look)
		return combine(x.kind, left, right)
	case choice:
		if evaluate(x.test, look) != 0 {
			return evaluate(x.then, look)
		}
		return evaluate(x.other, look)
	}
	return 0
}

func combine(kind int, a int, b int) int {
	switch kind {
	case PaAdd:
		return (a + b) % Modulus
	case PaSub:
		return (a - b + Modulus) % Modulus
	case PaMul:
		return a * b % Modulus
	case PaMin:
		return min(a, b)
	case PaMax:
		return max(a, b)
	}
	if a < b {
		return 1
	}
	return 0
}

// ValueOf returns the value of a formula.
func ValueOf(f Formula, values []int) (int, bool) {
	if !canEvaluate(f, values) {
		return 0, false
	}
	look := func(node int) int { return values[node] }
	return evaluate(wholeOf(f), look), true
}

// ReadsOf returns the nodes that are read for a value.
func ReadsOf(f Formula, values []int) []int {
	if !canEvaluate(f, values) {
		return nil
	}
	var reads []int
	evaluate(wholeOf(f), func(node int) int {
		if !slices.Contains(reads, node) {
			reads = append(reads, node)
		}
		return values[node]
	})
	return reads
}

// MayRead returns the nodes that a formula has.
func MayRead(f Formula) []int {
	if !ValidFormula(f) {
		return nil
	}
	var has [MaxNodes]bool
	for _, p := range f.Parts {
		if p.Kind == PaRead {
			has[p.N] = true
		}
	}
	var nodes []int
	for n := range MaxNodes {
		if has[n] {
			nodes = append(nodes, n)
		}
	}
	return nodes
}

func deepest(t term) int {
	deep := 0
	for _, b := range t.below() {
		deep = max(deep, deepest(b))
	}
	return deep + 1
}

// DeepOf returns how deep a formula is.
func DeepOf(f Formula) int {
	if !ValidFormula(f) {
		return -1
	}
	return deepest(wholeOf(f))
}

// OrderParts returns a formula with its parts in order.
func OrderParts(f Formula) Formula {
	if !ValidFormula(f) {
		return Formula{}
	}
	return formulaOf(wholeOf(f))
}

// RenameReads returns a formula that reads other nodes.
func RenameReads(f Formula, to []int) Formula {
	if !ValidFormula(f) || !allInRange(to, MaxNodes-1) || !hasEach(f, to) {
		return Formula{}
	}
	parts := slices.Clone(f.Parts)
	for i, p := range parts {
		if p.Kind == PaRead {
			parts[i].N = to[p.N]
		}
	}
	return Formula{Parts: parts}
}

func fold(t term) term {
	switch x := t.(type) {
	case pair:
		return foldPair(x)
	case choice:
		return foldChoice(x)
	}
	return t
}

func foldPair(t pair) term {
	left := fold(t.left)
	right := fold(t.right)
	a, leftIsNumber := left.(number)
	b, rightIsNumber := right.(number)
	if leftIsNumber && rightIsNumber {
		// A greater value has no PaNum, so its parts stay.
		if value := combine(t.kind, a.value, b.value); value <= MaxNumber {
			return number{value}
		}
	}
	return pair{t.kind, left, right}
}

func foldChoice(t choice) term {
	test := fold(t.test)
	if a, ok := test.(number); ok {
		if a.value != 0 {
			return fold(t.then)
		}
		return fold(t.other)
	}
	return choice{test, fold(t.then), fold(t.other)}
}

// FoldFormula returns a formula with numbers in the place of parts that read nothing.
func FoldFormula(f Formula) Formula {
	if !ValidFormula(f) {
		return Formula{}
	}
	return formulaOf(fold(wholeOf(f)))
}

// ReadsWhole reports whether all nodes of a formula are read.
func ReadsWhole(f Formula, values []int) bool {
	// ReadsOf are different and among MayRead, so their number tells.
	return canEvaluate(f, values) && len(ReadsOf(f, values)) == len(MayRead(f))
}
