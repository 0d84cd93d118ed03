package tests

import (
	"math"
	"slices"
	"strings"
	"testing"

	"loop.example/g01145/impl"
)

func TestChoiceLimits(t *testing.T) {
	expect(t, "limits", "5 4 64", impl.MaxChoice, impl.MaxMarks, impl.MaxPairs)
}

func TestValidChoices(t *testing.T) {
	for i, m := range sampleChoices() {
		if !impl.ValidChoices(m) {
			t.Errorf("the choices %d, %v, are valid", i, m)
		}
	}
	l := lottery(41)
	largest := l.choices(impl.MaxChoice, impl.MaxMarks, 10)
	for i := range stateListsIn(&largest) {
		for _, states := range [][]int64{nil, {}, {0}, {impl.MaxChoice - 1}, {0, impl.MaxChoice - 1}, {1, 2, 4}, {0, 1, 2, 3, 4}} {
			m := copiedChoices(largest)
			*stateListsIn(&m)[i] = states
			if !impl.ValidChoices(m) {
				t.Errorf("the list %d may be %v", i, states)
			}
		}
	}
	for i := range pushListsIn(&largest) {
		for _, pushes := range [][]impl.Push{nil, {{}}, {{To: 4, Put: 3}}, {{Put: 3}, {To: 1}}, {{Put: 0}, {Put: 1}, {To: 4, Put: 0}, {To: 4, Put: 3}}} {
			m := copiedChoices(largest)
			*pushListsIn(&m)[i] = pushes
			if !impl.ValidChoices(m) {
				t.Errorf("the list of pushes %d may be %v", i, pushes)
			}
		}
	}
}

func TestBrokenChoicesAreNotValid(t *testing.T) {
	for i, m := range brokenChoices() {
		if impl.ValidChoices(m) {
			t.Errorf("the choices %d, %v, are not valid", i, m)
		}
	}
}

func TestSameChoices(t *testing.T) {
	for i, m := range append(sampleChoices(), brokenChoices()...) {
		if !impl.SameChoices(m, copiedChoices(m)) || !impl.SameChoices(copiedChoices(m), m) {
			t.Errorf("the choices %d are the same as their copy", i)
		}
	}
	l := lottery(43)
	m := l.choices(3, 2, 8)
	differs := func(change func(n *impl.Choices)) {
		n := copiedChoices(m)
		change(&n)
		if impl.SameChoices(m, n) || impl.SameChoices(n, m) {
			t.Errorf("%v and %v are not the same", m, n)
		}
	}
	for i, list := range stateListsIn(&m) {
		differs(func(n *impl.Choices) { *stateListsIn(n)[i] = append(*stateListsIn(n)[i], 0) })
		for k := range *list {
			differs(func(n *impl.Choices) { (*stateListsIn(n)[i])[k] = math.MinInt64 })
		}
	}
	for i, list := range pushListsIn(&m) {
		differs(func(n *impl.Choices) { *pushListsIn(n)[i] = append(*pushListsIn(n)[i], impl.Push{}) })
		for k := range *list {
			differs(func(n *impl.Choices) { (*pushListsIn(n)[i])[k].To++ })
			differs(func(n *impl.Choices) { (*pushListsIn(n)[i])[k].Put-- })
		}
	}
	for state := range m.Accept {
		differs(func(n *impl.Choices) { n.Accept[state] = !n.Accept[state] })
	}
	for _, change := range choiceLengthChanges() {
		differs(func(n *impl.Choices) { change(n, 1) })
		differs(func(n *impl.Choices) { change(n, -1) })
	}
	differs(func(n *impl.Choices) { n.Stack++ })
}

func TestNoListsAreTheSameAsEmptyOnes(t *testing.T) {
	none := impl.Choices{}
	empty := impl.Choices{Starts: []int64{}, Accept: []bool{}, Call: [][][]impl.Push{}, Return: [][][][]int64{}, Inner: [][][]int64{}}
	expect(t, "no lists", "true true true", impl.SameChoices(none, empty), impl.SameChoices(empty, none), impl.SameChoices(none, none))
	none = impl.Choices{Call: [][][]impl.Push{nil, {nil}}, Return: [][][][]int64{nil, {nil}, {{nil}}}, Inner: [][][]int64{nil, {nil}}}
	empty = impl.Choices{Call: [][][]impl.Push{{}, {{}}}, Return: [][][][]int64{{}, {{}}, {{{}}}}, Inner: [][][]int64{{}, {{}}}}
	expect(t, "no lists within lists", "true true", impl.SameChoices(none, empty), impl.SameChoices(empty, none))
}

// choiceCheckers returns checkers that are small enough for choices.
func choiceCheckers() []impl.Checker {
	l := lottery(47)
	deep, _ := impl.DepthChecker(3)
	count, _ := impl.CountChecker("b", impl.MaxChoice)
	list := []impl.Checker{impl.MatchedChecker(), impl.KindsChecker(), deep, count}
	for states := range int64(impl.MaxChoice) {
		for marks := range int64(impl.MaxMarks) {
			list = append(list, l.checker(states+1, marks+1))
		}
	}
	return list
}

func TestChoicesOf(t *testing.T) {
	for _, c := range choiceCheckers() {
		want := impl.Choices{Stack: c.Stack, Starts: []int64{c.Start}, Accept: c.Accept}
		for state := range c.Accept {
			var calls [][]impl.Push
			var returns [][][]int64
			var inner [][]int64
			for kind := range 2 {
				calls = append(calls, []impl.Push{c.Call[state][kind]})
				inner = append(inner, []int64{c.Inner[state][kind]})
				var lists [][]int64
				for _, to := range c.Return[state][kind] {
					lists = append(lists, []int64{to})
				}
				returns = append(returns, lists)
			}
			want.Call, want.Return, want.Inner = append(want.Call, calls), append(want.Return, returns), append(want.Inner, inner)
		}
		m, code := impl.ChoicesOf(c)
		expectChoices(t, "ChoicesOf", want, m, code)
		expect(t, "what is made of a checker", "true", impl.ValidChoices(m))
		for _, w := range shortWords() {
			run, _ := runByPlaces(c, c.Start, nil, w)
			states, one := impl.StatesAfter(m, w)
			takes, two := impl.ChoicesTake(m, w)
			expect(t, w, told([]int64{run[len(w)]}, 0, c.Accept[run[len(w)]], 0), states, one, takes, two)
		}
	}
}

func TestChoicesOfErrors(t *testing.T) {
	for size, want := range map[[2]int64]int64{
		{impl.MaxChoice, impl.MaxMarks}: impl.OK, {impl.MaxChoice, 1}: impl.OK, {1, impl.MaxMarks}: impl.OK,
		{impl.MaxChoice + 1, 1}: impl.ErrLimit, {1, impl.MaxMarks + 1}: impl.ErrLimit, {impl.MaxChoice + 1, impl.MaxMarks}: impl.ErrLimit,
		{impl.MaxChoice, impl.MaxMarks + 1}: impl.ErrLimit, {impl.MaxStates, impl.MaxStack}: impl.ErrLimit,
	} {
		m, code := impl.ChoicesOf(evenChecker(size[0], size[1], size[0]-1, size[1]-1))
		if code != want || (code == impl.OK) != impl.ValidChoices(m) {
			t.Errorf("%d states and %d marks: got the code %d and %v", size[0], size[1], code, m)
		}
		if want != impl.OK {
			expectError(t, "ChoicesOf", want, code, m)
		}
	}
	for _, c := range brokenCheckers() {
		m, code := impl.ChoicesOf(c)
		expectError(t, "ChoicesOf", impl.ErrInvalid, code, m)
	}
}

// eitherByMoves adds the moves of n to those of m, one by one.
func eitherByMoves(m, n impl.Choices) impl.Choices {
	states, both := int64(len(m.Accept)), copiedChoices(m)
	both.Stack += n.Stack
	for state := range m.Accept {
		for kind := range 2 {
			lists := &both.Return[state][kind]
			for range n.Stack {
				*lists = slices.Insert(*lists, int(m.Stack), []int64(nil))
			}
		}
	}
	added := copiedChoices(n)
	for _, list := range stateListsIn(&added) {
		for i := range *list {
			(*list)[i] += states
		}
	}
	for _, list := range pushListsIn(&added) {
		for i := range *list {
			(*list)[i] = impl.Push{To: (*list)[i].To + states, Put: (*list)[i].Put + m.Stack}
		}
	}
	for state := range n.Accept {
		for kind := range 2 {
			added.Return[state][kind] = append(make([][]int64, m.Stack), added.Return[state][kind]...)
		}
	}
	both.Starts, both.Accept = append(both.Starts, added.Starts...), append(both.Accept, added.Accept...)
	both.Call, both.Return, both.Inner = append(both.Call, added.Call...), append(both.Return, added.Return...), append(both.Inner, added.Inner...)
	return both
}

func TestEitherChoices(t *testing.T) {
	t.Parallel()
	words, samples := append(shortWords()[:200], randomWords(1)...), sampleChoices()
	for i, m := range samples {
		for k, n := range samples {
			either, code := impl.EitherChoices(m, n)
			if len(m.Accept)+len(n.Accept) > impl.MaxChoice || m.Stack+n.Stack > impl.MaxMarks {
				expectError(t, "EitherChoices", impl.ErrLimit, code, either)
				continue
			}
			expectChoices(t, "EitherChoices", eitherByMoves(m, n), either, code)
			expect(t, "what is made of choices", "true", impl.ValidChoices(either))
			if (i+k)%20 != 0 {
				continue
			}
			for _, w := range words {
				takes, code := impl.ChoicesTake(either, w)
				if takes != (takesByParts(m, w) || takesByParts(n, w)) || code != impl.OK {
					t.Fatalf("%v or %v, and %q: got %v and the code %d", m, n, w, takes, code)
				}
			}
		}
	}
}

func TestEitherChoicesLimits(t *testing.T) {
	l := lottery(53)
	for size, want := range map[[4]int64]int64{
		{4, 3, 1, 1}: impl.OK, {1, 1, 4, 3}: impl.OK, {2, 2, 3, 2}: impl.OK, {5, 1, 1, 1}: impl.ErrLimit, {3, 1, 3, 1}: impl.ErrLimit,
		{1, 4, 1, 1}: impl.ErrLimit, {1, 2, 1, 3}: impl.ErrLimit, {5, 4, 5, 4}: impl.ErrLimit, {4, 2, 1, 3}: impl.ErrLimit, {3, 2, 3, 2}: impl.ErrLimit,
	} {
		m, n := l.choices(size[0], size[1], 5), l.choices(size[2], size[3], 5)
		either, code := impl.EitherChoices(m, n)
		if want == impl.OK {
			expectChoices(t, told(size), eitherByMoves(m, n), either, code)
			continue
		}
		expectError(t, told(size), want, code, either)
	}
	largest := l.choices(impl.MaxChoice, impl.MaxMarks, 5)
	for _, m := range brokenChoices() { // invalid comes ahead of the limit
		for _, n := range []impl.Choices{guessedReturn(), largest, m} {
			first, one := impl.EitherChoices(m, n)
			second, two := impl.EitherChoices(n, m)
			expectError(t, "EitherChoices", impl.ErrInvalid, one, first)
			expectError(t, "EitherChoices", impl.ErrInvalid, two, second)
		}
	}
}

// TestWaysAreGone checks short words by going all ways, each with its stack.
func TestWaysAreGone(t *testing.T) {
	t.Parallel()
	l := lottery(59)
	for _, m := range sampleChoices() {
		words := slices.Concat(wordsOf(0), wordsOf(1), wordsOf(2))
		for _, w := range slices.Concat(wordsOf(3), wordsOf(4), wordsOf(5)) {
			if pushCount(m) < 20 && l.below(30) == 0 || l.below(400) == 0 && len(w) < 5 {
				words = append(words, w)
			}
		}
		for _, w := range words {
			var ends []int64
			for _, start := range m.Starts {
				ends = append(ends, endsByRuns(m, start, nil, w)...)
			}
			ends = sortedSet(ends)
			states, code := impl.StatesAfter(m, w)
			if !slices.Equal(states, ends) || code != impl.OK {
				t.Fatalf("%v and %q: got %v and the code %d, want %v", m, w, states, code, ends)
			}
			if parts := endsByParts(m, w); !slices.Equal(parts, ends) {
				t.Fatalf("%v and %q: the tests find %v and %v", m, w, parts, ends)
			}
		}
	}
}

func pushCount(m impl.Choices) int {
	count := 0
	for _, list := range pushListsIn(&m) {
		count += len(*list)
	}
	return count
}

func TestStatesAfter(t *testing.T) {
	t.Parallel()
	words := append(shortWords(), strings.Repeat("([", 15)+strings.Repeat(")]", 15), strings.Repeat("(a]", 20), strings.Repeat("]b(", 20))
	for i, m := range sampleChoices() {
		for k, w := range words {
			if (i+k)%3 > 0 {
				continue
			}
			want := endsByParts(m, w)
			states, one := impl.StatesAfter(m, w)
			takes, two := impl.ChoicesTake(m, w)
			if !slices.Equal(states, want) || takes != takesByParts(m, w) || one != impl.OK || two != impl.OK {
				t.Fatalf("%v and %q: got %v, %v and the codes %d and %d, want %v", m, w, states, takes, one, two, want)
			}
		}
	}
}

func TestKnownChoices(t *testing.T) {
	m := guessedReturn()
	for w, want := range map[string]string{
		"": "[0] 0 false 0", "(": "[0 1] 0 true 0", "(a": "[0 1] 0 true 0", "()": "[1] 0 true 0", "(()": "[1] 0 true 0",
		"(())": "[1] 0 true 0", "((a)a": "[1] 0 true 0", "(a))": "[] 0 false 0", "(]": "[] 0 false 0", "[": "[] 0 false 0",
		"a": "[0] 0 false 0", "b": "[] 0 false 0", ")": "[] 0 false 0", "((": "[0 1] 0 true 0",
	} {
		states, one := impl.StatesAfter(m, w)
		takes, two := impl.ChoicesTake(m, w)
		expect(t, w, want, states, one, takes, two)
	}
	m.Starts = nil
	for _, w := range []string{"", "(", "()", "a"} {
		states, one := impl.StatesAfter(m, w)
		takes, two := impl.ChoicesTake(m, w)
		expect(t, "no start", "[] 0 false 0", states, one, takes, two)
	}
}

func TestReturnsWithTheEmptyStack(t *testing.T) {
	l := lottery(61)
	m := l.choices(2, 2, 0)
	m.Starts = []int64{0}
	m.Return[0][0][2], m.Return[0][1][2], m.Return[1][0][2] = []int64{0, 1}, []int64{1}, []int64{0}
	m.Call[0][0] = []impl.Push{{To: 0, Put: 0}, {To: 1, Put: 1}}
	m.Return[0][0][1] = []int64{1}
	for w, want := range map[string]string{
		")": "[0 1] 0", "]": "[1] 0", ")]": "[1] 0", "])": "[0] 0", "]]": "[] 0", "()": "[] 0", "())": "[] 0", ")(": "[0 1] 0", "(()": "[] 0",
	} {
		states, code := impl.StatesAfter(m, w)
		expect(t, w, want, states, code)
	}
	m.Return[1][0][1] = []int64{0}
	states, one := impl.StatesAfter(m, "()")
	pairs, two := impl.PairsOf(m, "()")
	expect(t, "the mark of the same choice", "[0] 0 [[0] []] 0", states, one, pairs, two)
	states, one = impl.StatesAfter(m, "())")
	expect(t, "empty again", "[0 1] 0", states, one)
}

func matchedSamples() []string {
	matched := append(matchedOnly(shortWords()), matchedOnly(wordsOf(4))...)
	return append(matched, strings.Repeat("([", 15)+strings.Repeat(")]", 15), strings.Repeat("[a)", 20), strings.Repeat("()", 30))
}

func TestPairsOf(t *testing.T) {
	matched := matchedSamples()
	for _, m := range sampleChoices() {
		for _, u := range matched {
			pairs, code := impl.PairsOf(m, u)
			if len(pairs) != len(m.Accept) || code != impl.OK {
				t.Fatalf("%v and %q: got %v and the code %d", m, u, pairs, code)
			}
			if want := pairsByParts(m, u); !sameLists(pairs, want) {
				t.Fatalf("%v and %q: got %v, want %v", m, u, pairs, want)
			}
		}
	}
}

// TestPairsAreThoseOfTheWhole puts the pairs of matched words one behind the
// other.
func TestPairsAreThoseOfTheWhole(t *testing.T) {
	l := lottery(67)
	words := matchedOnly(append(shortWords(), wordsOf(4)...))
	for _, m := range sampleChoices() {
		for range 40 {
			u, v := words[l.below(int64(len(words)))], words[l.below(int64(len(words)))]
			first, _ := impl.PairsOf(m, u)
			second, _ := impl.PairsOf(m, v)
			whole, code := impl.PairsOf(m, u+v)
			if len(u)+len(v) > impl.MaxWord {
				expectError(t, "PairsOf", impl.ErrInvalid, code, whole)
				continue
			}
			want := make([][]int64, len(first))
			for state, middles := range first {
				for _, middle := range middles {
					want[state] = append(want[state], second[middle]...)
				}
				want[state] = sortedSet(want[state])
			}
			expect(t, told(u, v), told(want, 0), whole, code)
		}
	}
}

func TestPairsOfErrors(t *testing.T) {
	for _, m := range sampleChoices() {
		for _, u := range []string{"(", "]", ")(", "(()", "a)", strings.Repeat("(", 60), strings.Repeat("]", 60)} {
			pairs, code := impl.PairsOf(m, u)
			expectError(t, u, impl.ErrState, code, pairs)
		}
	}
}

func expectInvalidWays(t *testing.T, m impl.Choices, w string) {
	t.Helper()
	takes, one := impl.ChoicesTake(m, w)
	expectError(t, "ChoicesTake", impl.ErrInvalid, one, takes)
	states, two := impl.StatesAfter(m, w)
	expectError(t, "StatesAfter", impl.ErrInvalid, two, states)
	pairs, three := impl.PairsOf(m, w)
	expectError(t, "PairsOf", impl.ErrInvalid, three, pairs)
}

func TestBrokenChoicesDoNotRead(t *testing.T) {
	for _, m := range brokenChoices() {
		for _, w := range []string{"", "(", "a(b])[", "]", "c", strings.Repeat("a", impl.MaxWord+1)} {
			expectInvalidWays(t, m, w)
		}
		c, one := impl.CheckerOf(m)
		expectError(t, "CheckerOf", impl.ErrInvalid, one, c)
		first, two := impl.FirstOfChoices(m)
		expectError(t, "FirstOfChoices", impl.ErrInvalid, two, first)
	}
}

func TestChoicesDoNotReadNoWords(t *testing.T) {
	for _, w := range noWords() {
		expectInvalidWays(t, guessedReturn(), w)
		expectInvalidWays(t, firstByThree(), w)
	}
}
