package tests

import (
	"math/rand"
	"slices"
	"testing"

	"loop.example/signalgraph/impl"
)

// isWrittenBack reports whether a cell has another value within a batch, but not behind it.
func isWrittenBack(p play) bool {
	before := acts()
	for _, done := range doneIn(p.acts) {
		start, after := cellsBy(p.list, before), cellsBy(p.list, done)
		for i := len(before); i < len(done); i++ {
			for n, now := range cellsBy(p.list, done[:i]) {
				if now != start[n] && start[n] == after[n] {
					return true
				}
			}
		}
		before = done
	}
	return false
}

func TestTriedSessionsAreOfAllSorts(t *testing.T) {
	counts := map[string]int{}
	count := func(name string, holds bool) {
		if holds {
			counts[name]++
		}
	}
	playTries(func(r *rand.Rand, p play) {
		out := outcomeOf(p)
		noStops := p
		noStops.acts = without(p.acts, impl.AcStop)
		depths := append([]int{0}, depthsOf(p.acts)...)
		deepest := slices.Max(depths)
		count("no acts", len(p.acts) == 0)
		count("the most acts", len(p.acts) == impl.MaxActs)
		count("nothing is shown", len(out.shown) == 0)
		count("much is shown", len(out.shown) > 10)
		count("nothing is done", out.flushes == 0 && countOf(p.acts, impl.AcWrite) > 0)
		count("much is done", out.flushes > 10)
		count("batch in a batch", deepest > 1)
		count("two batches stay open", out.open > 1)
		count("one batch stays open", out.open == 1)
		count("effect is stopped", len(outcomeOf(noStops).shown) > len(out.shown))
		count("effect runs for nobody", len(out.shown) < len(outcomeOf(noStops).shown) && out.eager == outcomeOf(noStops).eager)
		count("lazy machine runs less for stopped effects", out.lazy < outcomeOf(noStops).lazy)
		count("lazy machine runs less", out.lazy < out.eager)
		count("both machines run the same", out.lazy == out.eager && out.flushes > 0 && out.lazy > len(out.shown))
		count("written back", isWrittenBack(p))
		for i, a := range p.acts {
			count("end without a beginning", a.Kind == impl.AcEnd && depths[i] == 0)
			count("empty batch", i > 0 && a.Kind == impl.AcEnd && p.acts[i-1].Kind == impl.AcBegin)
			count("stopped in a batch", a.Kind == impl.AcStop && depths[i] > 0)
			count("stopped again", a.Kind == impl.AcStop && slices.Contains(p.acts[:i], a))
			count("written once more", a.Kind == impl.AcWrite && cellsBy(p.list, p.acts[:i])[a.Node] == a.Value)
		}
	})
	for _, name := range []string{
		"no acts", "the most acts", "nothing is shown", "much is shown", "nothing is done", "much is done", "batch in a batch", "two batches stay open", "one batch stays open",
		"effect is stopped", "effect runs for nobody", "lazy machine runs less for stopped effects", "lazy machine runs less", "both machines run the same", "written back",
		"end without a beginning", "empty batch", "stopped in a batch", "stopped again", "written once more",
	} {
		if counts[name] < 30 {
			t.Errorf("%d times: %s", counts[name], name)
		}
	}
}

// isValidSession is another way to tell, act by act, by lists of what is allowed.
func isValidSession(g impl.Graph, list []impl.Act) bool {
	allowed := acts(begin, end)
	for _, n := range cellsOfGraph(g) {
		for value := range impl.Modulus {
			allowed = append(allowed, put(n, value))
		}
	}
	for _, n := range effectsOf(g) {
		allowed = append(allowed, stop(n))
	}
	isOther := func(a impl.Act) bool { return !slices.Contains(allowed, a) }
	return len(list) <= impl.MaxActs && !slices.ContainsFunc(list, isOther)
}

// changeAct changes one thing about an act.
func changeAct(r *rand.Rand, a *impl.Act) {
	switch r.Intn(3) {
	case 0:
		a.Kind = r.Intn(7) - 1
	case 1:
		a.Node = r.Intn(impl.MaxNodes+3) - 1
	default:
		a.Value = []int{-1, 0, 1, impl.Modulus - 1, impl.Modulus}[r.Intn(5)]
	}
}

func TestP48TheFirstActsAreASession(t *testing.T) {
	valid, invalid := 0, 0
	playTries(func(r *rand.Rand, p play) {
		for i := range len(p.acts) + 1 {
			if !impl.ValidActs(p.g, p.acts[:i]) {
				t.Fatalf("not valid: %v of %v", p.acts[:i], p.g)
			}
		}
		if len(p.acts) == 0 {
			return
		}
		p.acts = slices.Clone(p.acts)
		changeAct(r, &p.acts[r.Intn(len(p.acts))])
		want := isValidSession(p.g, p.acts)
		if impl.ValidActs(p.g, p.acts) != want {
			t.Errorf("ValidActs(%v, %v) = %v", p.g, p.acts, !want)
		}
		if want {
			valid++
		} else {
			invalid++
			checkNoSession(t, p)
		}
	})
	if valid < 300 || invalid < 1000 {
		t.Errorf("%d valid and %d invalid sessions", valid, invalid)
	}
}

func TestP49SessionsGoOn(t *testing.T) {
	playTries(func(r *rand.Rand, p play) {
		all := impl.PlainSession(p.g, p.list, p.acts)
		values := impl.MeaningOf(p.g, p.list)
		var first []impl.Show
		for _, n := range effectsOf(p.g) {
			first = append(first, impl.Show{Node: n, Value: values[n]})
		}
		if none := impl.PlainSession(p.g, p.list, nil); !slices.Equal(none, first) {
			t.Fatalf("PlainSession(%v, %v) of no acts = %v; want %v", p.g, p.list, none, first)
		}
		for range 5 {
			some := p.acts[:r.Intn(len(p.acts)+1)]
			out := impl.PlainSession(p.g, p.list, some)
			if len(out) < len(first) || len(out) > len(all) || !slices.Equal(out, all[:len(out)]) {
				t.Fatalf("PlainSession(%v, %v, %v) = %v; of all acts %v", p.g, p.list, some, out, all)
			}
		}
		if want := outcomeOf(p).shown; !slices.Equal(all, want) {
			t.Errorf("PlainSession(%v) = %v; want %v", p, all, want)
		}
	})
}

// checkShowsWhatIsMeant checks that a machine shows in sessions what PlainSession and the model show.
func checkShowsWhatIsMeant(t *testing.T, session func(g impl.Graph, cells []int, list []impl.Act) []impl.Show) {
	t.Helper()
	playTries(func(r *rand.Rand, p play) {
		out := session(p.g, p.list, p.acts)
		if plain := impl.PlainSession(p.g, p.list, p.acts); !slices.Equal(out, plain) {
			t.Errorf("the session %v shows %v; PlainSession is %v", p, out, plain)
		}
		if want := outcomeOf(p).shown; !slices.Equal(out, want) {
			t.Errorf("the session %v shows %v; want %v", p, out, want)
		}
	})
}

func TestP50EagerMachinesShowWhatIsMeant(t *testing.T) {
	checkShowsWhatIsMeant(t, impl.EagerSession)
}

func TestP51LazyMachinesShowWhatIsMeant(t *testing.T) {
	checkShowsWhatIsMeant(t, impl.LazySession)
}

// lastShown returns the last value that an effect shows, or -1.
func lastShown(list []impl.Show, n int) int {
	for _, s := range slices.Backward(list) {
		if s.Node == n {
			return s.Value
		}
	}
	return -1
}

func TestP52TheLastWordIsRight(t *testing.T) {
	playTries(func(r *rand.Rand, p play) {
		last := impl.CellsAfter(p.g, p.list, p.acts)
		means := impl.MeaningOf(p.g, last)
		var done []impl.Act
		if all := doneIn(p.acts); len(all) > 0 {
			done = all[len(all)-1]
		}
		for _, out := range shownIn(p) {
			for _, n := range effectsOf(p.g) {
				if !slices.Contains(done, stop(n)) && lastShown(out, n) != means[n] {
					t.Errorf("the session %v shows %v; the effect %d means %d", p, out, n, means[n])
				}
			}
		}
		if want := outcomeOf(p).cells; !slices.Equal(last, want) || !impl.ValidCells(p.g, last) {
			t.Errorf("CellsAfter(%v) = %v; want %v", p, last, want)
		}
	})
}

func TestP53LazyMachinesRunNoMore(t *testing.T) {
	playTries(func(r *rand.Rand, p play) {
		eager, lazy := impl.RunsIn(p.g, p.list, p.acts)
		if want := outcomeOf(p); lazy > eager || eager != want.eager || lazy != want.lazy {
			t.Errorf("RunsIn(%v) = %d, %d; want %d, %d", p, eager, lazy, want.eager, want.lazy)
		}
		still := without(p.acts, impl.AcWrite)
		eager, lazy = impl.RunsIn(p.g, p.list, still)
		others := len(p.g.Nodes) - len(cellsOfGraph(p.g))
		if eager != others || lazy > eager {
			t.Errorf("RunsIn(%v, %v, %v) = %d, %d; there are %d nodes that are no cells", p.g, p.list, still, eager, lazy, others)
		}
		// Without effects nobody reads.
		if len(effectsOf(p.g)) == 0 && lazy != 0 {
			t.Errorf("RunsIn(%v, %v, %v) = %d, %d", p.g, p.list, still, eager, lazy)
		}
	})
}

func TestP54CellsAreTheLastOnesThatWereWritten(t *testing.T) {
	tried := 0
	playTries(func(r *rand.Rand, p play) {
		batch := impl.BatchAll(p.g, p.acts)
		if len(batch) == 0 {
			return
		}
		tried++
		if last, want := impl.CellsAfter(p.g, p.list, batch), cellsBy(p.list, p.acts); !slices.Equal(last, want) {
			t.Errorf("CellsAfter(%v, %v, %v) = %v; want %v", p.g, p.list, batch, last, want)
		}
	})
	if tried < 1000 {
		t.Errorf("%d sessions in one batch", tried)
	}
}

func TestP55FlushesAreOfWritesAndEnds(t *testing.T) {
	tooMany := 0
	playTries(func(r *rand.Rand, p play) {
		flushes, open := impl.FlushesIn(p.g, p.acts)
		want := outcomeOf(p)
		if flushes != want.flushes || open != want.open || flushes > countOf(p.acts, impl.AcWrite, impl.AcEnd) {
			t.Errorf("FlushesIn(%v, %v) = %d, %d; want %d, %d", p.g, p.acts, flushes, open, want.flushes, want.open)
		}
		batch := impl.BatchAll(p.g, p.acts)
		inside := without(p.acts, impl.AcBegin, impl.AcEnd)
		if len(inside)+2 > impl.MaxActs {
			tooMany++
			if len(batch) != 0 {
				t.Errorf("BatchAll(%v, %v) = %v", p.g, p.acts, batch)
			}
			return
		}
		if !slices.Equal(batch, slices.Concat(acts(begin), inside, acts(end))) || !impl.ValidActs(p.g, batch) {
			t.Errorf("BatchAll(%v, %v) = %v", p.g, p.acts, batch)
		}
		if flushes, open := impl.FlushesIn(p.g, batch); flushes != 1 || open != 0 {
			t.Errorf("FlushesIn(%v, %v) = %d, %d", p.g, batch, flushes, open)
		}
	})
	if tooMany < 30 {
		t.Errorf("%d sessions with too many acts for one batch", tooMany)
	}
}

func TestP56BatchesShowLess(t *testing.T) {
	less := 0
	playTries(func(r *rand.Rand, p play) {
		batch := impl.BatchAll(p.g, p.acts)
		if len(batch) == 0 {
			return
		}
		first := effectsOf(p.g)
		want := outcomeOf(play{p.g, p.list, batch}).shown
		for _, out := range shownIn(play{p.g, p.list, batch}) {
			if !slices.Equal(out, want) {
				t.Fatalf("the session %v of %v, %v shows %v; want %v", batch, p.g, p.list, out, want)
			}
			var nodes []int
			for _, s := range out[len(first):] {
				nodes = append(nodes, s.Node)
			}
			if len(firsts(nodes)) != len(nodes) || !slices.IsSorted(nodes) {
				t.Errorf("the session %v of %v, %v shows %v", batch, p.g, p.list, out)
			}
		}
		if len(want) < len(impl.PlainSession(p.g, p.list, p.acts)) {
			less++
		}
	})
	if less < 300 {
		t.Errorf("%d times less was shown", less)
	}
}
