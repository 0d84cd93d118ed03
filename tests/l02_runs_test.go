package tests

import (
	"math"
	"slices"
	"strings"
	"testing"

	"loop.example/g01145/impl"
)

func TestChapter2Example(t *testing.T) {
	c := impl.MatchedChecker()
	first, one := impl.Takes(c, "(a[])")
	second, two := impl.Takes(c, "(")
	third, three := impl.Takes(c, ")")
	summary, four := impl.SummaryOf(c, "()")
	deep, five := impl.DepthChecker(1)
	states, stack, six := impl.RunOf(deep, "(a)")
	expect(t, "example", "true 0 false 0 false 0 [0 1 2] 0 0 [0 1 1 0] [] 0",
		first, one, second, two, third, three, summary, four, five, states, stack, six)
}

func TestKnownRuns(t *testing.T) {
	c := impl.MatchedChecker()
	for w, want := range map[string]string{
		"":     "[0] [] 0 [[]] 0",
		"a":    "[0 0] [] 0 [[] []] 0",
		"(":    "[0 1] [0] 0 [[] [0]] 0",
		"([)":  "[0 1 1 1] [0] 0 [[] [0] [0 1] [0]] 0",
		"(])":  "[0 1 0 2] [] 0 [[] [0] [] []] 0",
		")([b": "[0 2 2 2 2] [0 0] 0 [[] [] [0] [0 0] [0 0]] 0",
	} {
		states, stack, one := impl.RunOf(c, w)
		stacks, two := impl.StacksOf(c, w)
		expect(t, w, want, states, stack, one, stacks, two)
	}
}

func TestTheEmptyStackHasAStateOfItsOwn(t *testing.T) {
	c := evenChecker(3, 2, 0, 0)
	c.Return[0][0][2], c.Return[0][1][2] = 1, 2
	for w, want := range map[string]string{
		")": "[0 1] [] 0", "]": "[0 2] [] 0", "()": "[0 0 0] [] 0", "(]": "[0 0 0] [] 0", "())": "[0 0 0 1] [] 0",
		"(])(": "[0 0 0 1 0] [0] 0", "])]": "[0 2 0 2] [] 0",
	} {
		states, stack, code := impl.RunOf(c, w)
		expect(t, w, want, states, stack, code)
	}
	state, stack, code := impl.GoOn(c, 0, nil, ")")
	expect(t, "GoOn without a stack", "1 [] 0", state, stack, code)
	state, stack, code = impl.GoOn(c, 0, []int64{1}, ")")
	expect(t, "GoOn with a stack", "0 [] 0", state, stack, code)
	state, stack, code = impl.GoOn(c, 0, []int64{1}, ")]")
	expect(t, "GoOn with a stack that becomes empty", "2 [] 0", state, stack, code)
}

func TestRuns(t *testing.T) {
	for _, c := range sampleCheckers() {
		for _, w := range shortWords() {
			wantStates, wantStacks := runByPlaces(c, c.Start, nil, w)
			states, stack, one := impl.RunOf(c, w)
			stacks, two := impl.StacksOf(c, w)
			takes, three := impl.Takes(c, w)
			if one != impl.OK || two != impl.OK || three != impl.OK {
				t.Fatalf("%q: the codes are %d, %d and %d", w, one, two, three)
			}
			if !slices.Equal(states, wantStates) || !slices.Equal(stack, wantStacks[len(w)]) {
				t.Fatalf("%q: got the run %v and the stack %v, want %v and %v", w, states, stack, wantStates, wantStacks[len(w)])
			}
			if !sameLists(stacks, wantStacks) || takes != c.Accept[wantStates[len(w)]] {
				t.Fatalf("%q: got the stacks %v and %v, want %v", w, stacks, takes, wantStacks)
			}
		}
	}
}

func TestSummaries(t *testing.T) {
	l := lottery(11)
	matched := append(matchedOnly(shortWords()), matchedOnly(wordsOf(4))...)
	matched = append(matched, strings.Repeat("([", 15)+strings.Repeat(")]", 15), strings.Repeat("[a)", 20))
	for _, c := range sampleCheckers() {
		for _, u := range matched {
			summary, code := impl.SummaryOf(c, u)
			if len(summary) != len(c.Accept) || code != impl.OK {
				t.Fatalf("%q: got %v and the code %d", u, summary, code)
			}
			for state, want := range summary {
				stack := l.list(l.below(4), c.Stack)
				states, _ := runByPlaces(c, int64(state), nil, u)
				last, left, code := impl.GoOn(c, int64(state), stack, u)
				if states[len(u)] != want || last != want || !slices.Equal(left, stack) || code != impl.OK {
					t.Fatalf("%q from %d with %v: got %d, %v and %d, want %d", u, state, stack, last, left, code, want)
				}
			}
		}
	}
}

func TestSummaryErrors(t *testing.T) {
	for _, c := range sampleCheckers() {
		for _, u := range []string{"(", "]", ")(", "(()", "a)", strings.Repeat("(", 60), strings.Repeat("]", 60)} {
			summary, code := impl.SummaryOf(c, u)
			expectError(t, u, impl.ErrState, code, summary)
		}
	}
}

// TestWordsPutInChangeARunByTheirSummaries checks the runs on w with u behind
// its first i symbols.
func TestWordsPutInChangeARunByTheirSummaries(t *testing.T) {
	words := append(wordsOf(3), randomWords(1)[:50]...)
	for n, c := range sampleCheckers() {
		u := []string{"", "a", "(]", "[a(b)]b", "([)]()"}[n%5]
		summary, _ := impl.SummaryOf(c, u)
		for _, w := range words {
			states, _, _ := impl.RunOf(c, w)
			stacks, _ := impl.StacksOf(c, w)
			for i := range len(w) + 1 {
				put, _ := impl.PutAt(w, int64(i), u)
				behind, last, one := impl.RunOf(c, put)
				state, stack, two := impl.GoOn(c, summary[states[i]], stacks[i], w[i:])
				if one != impl.OK || two != impl.OK || behind[len(put)] != state || !slices.Equal(last, stack) {
					t.Fatalf("%q with %q behind %d: got %v and %v, want %d and %v", w, u, i, behind, last, state, stack)
				}
			}
		}
	}
}

func TestRunsGoOn(t *testing.T) {
	words := append(wordsOf(3), randomWords(1)...)
	for _, c := range sampleCheckers() {
		for _, w := range words {
			whole, last, _ := impl.RunOf(c, w)
			for i := range len(w) + 1 {
				front, marks, one := impl.RunOf(c, w[:i])
				state, stack, two := impl.GoOn(c, front[i], marks, w[i:])
				if one != impl.OK || two != impl.OK || state != whole[len(w)] || !slices.Equal(stack, last) {
					t.Fatalf("%q cut at %d: got %d and %v, want %d and %v", w, i, state, stack, whole[len(w)], last)
				}
			}
		}
	}
}

func TestRunsGoOnFromEverywhere(t *testing.T) {
	l := lottery(5)
	for _, c := range sampleCheckers() {
		for _, w := range shortWords() {
			start, marks := l.below(int64(len(c.Accept))), l.list(l.below(6), c.Stack)
			states, stacks := runByPlaces(c, start, marks, w)
			state, stack, code := impl.GoOn(c, start, marks, w)
			if state != states[len(w)] || !slices.Equal(stack, stacks[len(w)]) || code != impl.OK {
				t.Fatalf("%q from %d with %v: got %d, %v and %d, want %d and %v", w, start, marks, state, stack, code, states[len(w)], stacks[len(w)])
			}
		}
	}
}

func TestGoOnEnds(t *testing.T) {
	l := lottery(13)
	c := l.checker(4, 3)
	full := l.list(impl.MaxWord, 3)
	calls, returns := strings.Repeat("(", impl.MaxWord), strings.Repeat("]", impl.MaxWord)
	for _, w := range []string{"", calls, returns, calls[:30] + returns[:30]} {
		for _, start := range []int64{0, 3} {
			states, stacks := runByPlaces(c, start, full, w)
			state, stack, code := impl.GoOn(c, start, full, w)
			expect(t, "a full stack", told(states[len(w)], stacks[len(w)], 0), state, stack, code)
		}
	}
	for _, start := range []int64{math.MinInt64, -1, 4, 5, 1 << 32, math.MaxInt64} {
		state, stack, code := impl.GoOn(c, start, nil, "a")
		expectError(t, "the state", impl.ErrRange, code, state, stack)
	}
	for _, mark := range []int64{math.MinInt64, -1, 3, 4, 1 << 32, math.MaxInt64} {
		for _, marks := range [][]int64{{mark}, {0, mark}, {mark, 0}, {2, mark, 1}} {
			state, stack, code := impl.GoOn(c, 0, marks, "a")
			expectError(t, "a mark", impl.ErrRange, code, state, stack)
		}
	}
	for _, length := range []int64{impl.MaxWord + 1, impl.MaxWord + 2, 1000000} {
		state, stack, code := impl.GoOn(c, 0, make([]int64, length), "")
		expectError(t, "the height", impl.ErrRange, code, state, stack)
	}
}

// expectInvalidRuns checks the functions that run a checker on a word; their
// other arguments are wrong, too.
func expectInvalidRuns(t *testing.T, c impl.Checker, w string) {
	t.Helper()
	states, stack, one := impl.RunOf(c, w)
	expectError(t, "RunOf", impl.ErrInvalid, one, states, stack)
	takes, two := impl.Takes(c, w)
	expectError(t, "Takes", impl.ErrInvalid, two, takes)
	stacks, three := impl.StacksOf(c, w)
	expectError(t, "StacksOf", impl.ErrInvalid, three, stacks)
	summary, four := impl.SummaryOf(c, w)
	expectError(t, "SummaryOf", impl.ErrInvalid, four, summary)
	for _, start := range []int64{-1, 0, 50} {
		for _, marks := range [][]int64{nil, {-1}, {100}, make([]int64, 61)} {
			state, stack, five := impl.GoOn(c, start, marks, w)
			expectError(t, "GoOn", impl.ErrInvalid, five, state, stack)
		}
	}
}

func TestBrokenCheckersDoNotRun(t *testing.T) {
	for _, c := range brokenCheckers() {
		for _, w := range []string{"", "(", "a(b])[", "]", "c", strings.Repeat("a", impl.MaxWord+1)} {
			expectInvalidRuns(t, c, w)
		}
	}
}

func TestNoWordsAreNotRead(t *testing.T) {
	for _, w := range noWords() {
		expectInvalidRuns(t, impl.MatchedChecker(), w)
		expectInvalidRuns(t, evenChecker(impl.MaxStates, impl.MaxStack, 0, 0), w)
	}
}
