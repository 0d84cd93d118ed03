package tests

import (
	"slices"
	"strings"
	"testing"

	"loop.example/g01145/impl"
)

func TestStreamLimits(t *testing.T) {
	expect(t, "limits", "20 12 300 20000 120", impl.MaxPieces, impl.MaxWire, impl.MaxDeeds, impl.MaxScriptText, impl.MaxScriptLines)
	expect(t, "verdicts", "0 1 2", impl.VdOpen, impl.VdTakes, impl.VdRefuses)
	expect(t, "kinds", "1 2 3 4 5 6", impl.DdSend, impl.DdDeliver, impl.DdCopy, impl.DdDrop, impl.DdSave, impl.DdCrash)
}

func TestChapter8Example(t *testing.T) {
	v, deeds := chapterStream(), deedsOf("send 2 2; deliver 0; send 0 0; deliver 0")
	p, done, one := impl.PlantAfter(v, deeds)
	expect(t, "PlantAfter", "{{1 1 [0] [2]} {0 0 [] []} []} 4 0", p, done, one)
	missing, two := impl.MissingAfter(v, deeds)
	expect(t, "MissingAfter", "[1] 0", missing, two)
	plan, three := impl.FinishDeeds(v, deeds)
	expect(t, "FinishDeeds", told(deedsOf("send 1 1; deliver 0; save"), 0), plan, three)
	verdict, four := impl.VerdictAfter(v, slices.Concat(deeds, plan))
	expect(t, "VerdictAfter", "1 0", verdict, four)
	verdict, five := impl.VerdictAfter(v, deeds)
	expect(t, "VerdictAfter", "0 0", verdict, five)
	lost, six := impl.LostStates(impl.MatchedChecker())
	expect(t, "LostStates", "[2] 0", lost, six)
}

func TestStreamsAreValid(t *testing.T) {
	for i, v := range sampleStreams() {
		whole, code := impl.WholeOf(v)
		expect(t, told(i), told(true, strings.Join(v.Pieces, ""), 0), impl.ValidStream(v), whole, code)
	}
	for i, v := range brokenStreams() {
		expect(t, told("broken", i), "false", impl.ValidStream(v))
		whole, code := impl.WholeOf(v)
		expectError(t, told("broken", i), impl.ErrInvalid, code, whole)
	}
}

// TestSizesOfStreams has pieces of all numbers and lengths.
func TestSizesOfStreams(t *testing.T) {
	for count := range 2*impl.MaxPieces + 2 {
		for length := range impl.MaxWord + 2 {
			v := streamOf(impl.KindsChecker(), slices.Repeat([]string{strings.Repeat("[", length)}, count)...)
			want := count >= 1 && count <= impl.MaxPieces && count*length <= impl.MaxWord
			if impl.ValidStream(v) != want {
				t.Errorf("%d pieces of %d symbols: want %v", count, length, want)
			}
		}
	}
	for front := range impl.MaxWord + 2 {
		for back := range impl.MaxWord + 2 {
			v := streamOf(impl.MatchedChecker(), strings.Repeat("(", front), "", strings.Repeat("b", back))
			if impl.ValidStream(v) != (front+back <= impl.MaxWord) {
				t.Errorf("%d and %d symbols: want %v", front, back, !impl.ValidStream(v))
			}
		}
	}
}

func TestWholes(t *testing.T) {
	for want, pieces := range map[string][]string{
		"": {""}, "a": {"", "a", ""}, "(a[])": {"(a", "[]", ")"}, ")(": {")", "("}, "ba": {"b", "a"}, "([)]ab": {"([)", "]a", "", "b"},
	} {
		whole, code := impl.WholeOf(streamOf(impl.MatchedChecker(), pieces...))
		expect(t, "WholeOf", told(want, 0), whole, code)
	}
}

func TestLostStates(t *testing.T) {
	l := lottery(821)
	checkers := slices.Concat(sampleCheckers(), smallCheckers(), imageCheckers(), badCheckers())
	for range 300 {
		// Most of the moves of these stay where they are.
		c := evenChecker(9, 2, 0, 0)
		for state := range int64(9) {
			for i := range 2 {
				c.Call[state][i].To, c.Inner[state][i] = state, state
				c.Return[state][i] = []int64{state, state, state}
			}
		}
		numbers := numbersIn(&c)
		for range l.below(16) {
			n := numbers[l.below(int64(len(numbers)))]
			*n.at = l.below(n.count)
		}
		c.Accept[l.below(9)] = true
		checkers = append(checkers, c)
	}
	counts := map[int]bool{}
	for i, c := range checkers {
		lost, code := impl.LostStates(c)
		expect(t, told("the checker", i), told(lostByRounds(c), 0), lost, code)
		counts[len(lost)] = true
	}
	if len(counts) < 8 {
		t.Errorf("there are only these numbers of lost states: %v", counts)
	}
}

func TestKnownLostStates(t *testing.T) {
	check := func(name, want string, c impl.Checker) {
		t.Helper()
		lost, code := impl.LostStates(c)
		expect(t, name, told(want, 0), lost, code)
	}
	check("MatchedChecker", "[2]", impl.MatchedChecker())
	check("KindsChecker", "[1]", impl.KindsChecker())
	for most := range int64(10) {
		c, _ := impl.DepthChecker(most)
		check("DepthChecker", told([]int64{most + 1}), c)
	}
	check("CountChecker", "[]", counting("a", impl.MaxStates))
	check("no accepting state", "[0]", evenChecker(1, 1, 0, 0))
	check("no accepting state", told(firstNumbers(impl.MaxStates)), evenChecker(impl.MaxStates, impl.MaxStack, 0, 0))
	check("all accepting states", "[]", opposite(evenChecker(impl.MaxStates, impl.MaxStack, 0, 0)))
}

func firstNumbers(count int64) []int64 {
	var list []int64
	for n := range count {
		list = append(list, n)
	}
	return list
}

// TestEachMoveLeadsOutOfLostStates has one move alone that leads to the accepting
// state: at a call, at an inner letter, or at a return that meets one mark, which
// need not be put by any call, or the empty stack.
func TestEachMoveLeadsOutOfLostStates(t *testing.T) {
	for state := range int64(3) {
		whole := evenChecker(4, 3, 0, 0)
		whole.Accept[3] = true
		for from := range int64(4) {
			for kind := range 2 {
				whole.Call[from][kind].To, whole.Inner[from][kind] = from, from
				whole.Return[from][kind] = slices.Repeat([]int64{from}, 4)
			}
		}
		want := slices.DeleteFunc(firstNumbers(3), func(n int64) bool { return n == state })
		for kind := range 2 {
			changes := []func(c *impl.Checker){
				func(c *impl.Checker) { c.Call[state][kind].To = 3 },
				func(c *impl.Checker) { c.Inner[state][kind] = 3 },
			}
			for mark := range 4 {
				changes = append(changes, func(c *impl.Checker) { c.Return[state][kind][mark] = 3 })
			}
			for i, change := range changes {
				c := copied(whole)
				change(&c)
				lost, code := impl.LostStates(c)
				expect(t, told("the change", i, "of", state), told(want, 0), lost, code)
			}
		}
		lost, code := impl.LostStates(whole)
		expect(t, "without the change", "[0 1 2] 0", lost, code)
	}
}

// TestStartDoesNotMatterForLostStates has other starts, from which few states are
// used.
func TestStartDoesNotMatterForLostStates(t *testing.T) {
	for _, c := range append(sampleCheckers(), badCheckers()...) {
		want, _ := impl.LostStates(c)
		for start := range c.Accept {
			c.Start = int64(start)
			lost, code := impl.LostStates(c)
			expect(t, "another start", told(want, 0), lost, code)
		}
	}
}

func TestBrokenCheckersHaveNoLostStates(t *testing.T) {
	for _, c := range brokenCheckers() {
		lost, code := impl.LostStates(c)
		expectError(t, "LostStates", impl.ErrInvalid, code, lost)
	}
}

// TestWordsFromLostStates follows lost states by words, whatever lies on the stack.
func TestWordsFromLostStates(t *testing.T) {
	l := lottery(823)
	for _, c := range append(smallCheckers(), badCheckers()...) {
		lost, _ := impl.LostStates(c)
		for _, state := range lost {
			for _, w := range shortWords() {
				to, _, code := impl.GoOn(c, state, l.list(l.below(6), c.Stack), w)
				if code != impl.OK || !slices.Contains(lost, to) || c.Accept[to] {
					t.Fatalf("%q leads from the lost state %d to %d, with the code %d", w, state, to, code)
				}
			}
		}
	}
}
