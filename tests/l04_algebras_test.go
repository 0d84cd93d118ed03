package tests

import (
	"math"
	"slices"
	"strings"
	"testing"

	"loop.example/g01145/impl"
)

// oddChecker takes the words with an odd number of "a".
func oddChecker() impl.Checker {
	even, _ := impl.CountChecker("a", 2)
	odd, _ := impl.OppositeChecker(even)
	return odd
}

func TestChapter4Example(t *testing.T) {
	a, code := impl.LeastAlgebra(oddChecker())
	expectAlgebra(t, "LeastAlgebra", impl.Algebra{
		Product: [][]int64{{0, 1}, {1, 0}},
		Wrap:    [][]int64{{0, 1}, {0, 1}, {0, 1}, {0, 1}},
		Inner:   []int64{1, 0},
		Accept:  []bool{false, true},
	}, a, code)
	words, one := impl.FirstWords(a)
	x, two := impl.ContextApart(a, 0, 1)
	expect(t, "FirstWords and ContextApart", "[ a] 0 { } 0", words, one, x, two)
}

func TestClassLimits(t *testing.T) {
	expect(t, "limits", "40 20 40", impl.MaxClasses, impl.MaxLearnt, impl.MaxContexts)
}

// isValidByRules checks an algebra with lists of the right lengths.
func isValidByRules(a impl.Algebra) bool {
	size := len(a.Accept)
	for i := range size {
		if a.Product[0][i] != int64(i) || a.Product[i][0] != int64(i) {
			return false
		}
		for k := range size {
			for j := range size {
				if a.Product[a.Product[i][k]][j] != a.Product[i][a.Product[k][j]] {
					return false
				}
			}
		}
	}
	return true
}

func TestValidAlgebras(t *testing.T) {
	for _, a := range sampleAlgebras() {
		if !impl.ValidAlgebra(a) || !isValidByRules(a) {
			t.Errorf("%v is not valid", a)
		}
	}
	for i, a := range brokenAlgebras() {
		if impl.ValidAlgebra(a) {
			t.Errorf("%d: %v is valid", i, a)
		}
	}
}

// TestProductsOfThree looks at all products of 0 as neutral and two others.
func TestProductsOfThree(t *testing.T) {
	l := lottery(109)
	valid := 0
	for number := range int64(81) {
		a := l.algebra(3, 3, orZero(func(i, k int64) int64 {
			digit := number
			for range 2*(i-1) + (k - 1) {
				digit /= 3
			}
			return digit % 3
		}))
		if impl.ValidAlgebra(a) != isValidByRules(a) {
			t.Errorf("%v: valid is %v", a, impl.ValidAlgebra(a))
		}
		if isValidByRules(a) {
			valid++
		}
	}
	if valid < 5 || valid > 40 {
		t.Errorf("%d are valid", valid)
	}
}

func TestSameAlgebra(t *testing.T) {
	l := lottery(113)
	list := append(brokenAlgebras(), impl.Algebra{}, l.algebra(2, 2, products(1)[0]), l.algebra(40, 40, products(39)[2]))
	for _, a := range list {
		if !impl.SameAlgebra(a, copiedAlgebra(a)) {
			t.Errorf("%v is not the same as its copy", a)
		}
	}
	a := l.algebra(3, 3, products(2)[1])
	for i := range elementsIn(&a) {
		b := copiedAlgebra(a)
		*elementsIn(&b)[i] += 1 << 32
		expect(t, "an element", "false false", impl.SameAlgebra(a, b), impl.SameAlgebra(b, a))
	}
	for i := range a.Accept {
		b := copiedAlgebra(a)
		b.Accept[i] = !b.Accept[i]
		expect(t, "Accept", "false false", impl.SameAlgebra(a, b), impl.SameAlgebra(b, a))
	}
	for _, change := range algebraLengthChanges() {
		for _, by := range []int{-2, -1, 1} {
			b := copiedAlgebra(a)
			change(&b, by)
			expect(t, "a length", "false false", impl.SameAlgebra(a, b), impl.SameAlgebra(b, a))
		}
	}
	empty := impl.Algebra{Product: [][]int64{}, Wrap: [][]int64{{}}, Inner: []int64{}, Accept: []bool{}}
	expect(t, "empty lists", "true false", impl.SameAlgebra(impl.Algebra{Wrap: [][]int64{nil}}, empty), impl.SameAlgebra(impl.Algebra{}, empty))
}

func TestKnownElements(t *testing.T) {
	a := deepAlgebra(3)
	for word, want := range map[string]string{
		"": "0 0 false 0", "()": "1 0 false 0", "(())": "2 0 false 0", "((()))": "3 0 true 0", "(((())))": "4 0 false 0",
		"a": "4 0 false 0", "(]": "4 0 false 0", "[)": "4 0 false 0", "[]": "4 0 false 0", "()()": "4 0 false 0", "((a))": "4 0 false 0",
		"(": "0 4 false 4", ")": "0 4 false 4", "a)": "0 4 false 4", ")(": "0 4 false 4", "([)": "0 4 false 4",
		"c": "0 1 false 1", "(c": "0 1 false 1", strings.Repeat("(", 61): "0 1 false 1",
		strings.Repeat("a", 60): "4 0 false 0", strings.Repeat("(", 30) + strings.Repeat(")", 30): "4 0 false 0",
	} {
		element, one := impl.ElementOf(a, word)
		takes, two := impl.AlgebraTakes(a, word)
		expect(t, word, want, element, one, takes, two)
	}
}

func TestElements(t *testing.T) {
	t.Parallel()
	words := slices.Concat(sampleWords()[:259], randomWords(1), shortMatched(4), matchedOnly(randomWords(20)))
	for number, a := range sampleAlgebras() {
		m := ofElements(a)
		for i := number % 29; i < len(words); i += 29 {
			word := words[i]
			element, one := impl.ElementOf(a, word)
			takes, two := impl.AlgebraTakes(a, word)
			if coreByCancelling(word) != "" {
				expectError(t, word, impl.ErrState, one, element)
				expectError(t, word, impl.ErrState, two, takes)
				continue
			}
			want := int64(m.of(word)[0])
			if element != want || takes != a.Accept[want] || one != impl.OK || two != impl.OK {
				t.Fatalf("%v and %q: got %d, %v and the codes %d and %d, want %d", a, word, element, takes, one, two, want)
			}
		}
	}
}

// TestElementsOfJoinedWords puts any parts of words together.
func TestElementsOfJoinedWords(t *testing.T) {
	t.Parallel()
	words := shortMatched(3)
	l := lottery(127)
	for _, a := range sampleAlgebras() {
		for range 20 {
			u, w := words[l.below(int64(len(words)))], words[l.below(int64(len(words)))]
			pair := l.below(4)
			one, _ := impl.ElementOf(a, u)
			two, _ := impl.ElementOf(a, w)
			joined, code := impl.ElementOf(a, u+w)
			around, again := impl.ElementOf(a, wrapped(int(pair), u))
			expect(t, told(u, w), told(a.Product[one][two], 0, a.Wrap[pair][one], 0), joined, code, around, again)
		}
	}
}

// expectNoAlgebra checks the functions that have one algebra.
func expectNoAlgebra(t *testing.T, a impl.Algebra, word string) {
	t.Helper()
	name := told(a, word)
	element, one := impl.ElementOf(a, word)
	expectError(t, name, impl.ErrInvalid, one, element)
	takes, two := impl.AlgebraTakes(a, word)
	expectError(t, name, impl.ErrInvalid, two, takes)
	words, three := impl.FirstWords(a)
	expectError(t, name, impl.ErrInvalid, three, words)
	trimmed, four := impl.TrimAlgebra(a)
	expectError(t, name, impl.ErrInvalid, four, trimmed)
	alike, five := impl.AlikeIn(a)
	expectError(t, name, impl.ErrInvalid, five, alike)
	merged, six := impl.MergeAlgebra(a)
	expectError(t, name, impl.ErrInvalid, six, merged)
	checker, seven := impl.CheckerOfAlgebra(a)
	expectError(t, name, impl.ErrInvalid, seven, checker)
	for _, i := range []int64{math.MinInt64, -1, 0, 1, 100} {
		x, eight := impl.ContextApart(a, i, 0)
		expectError(t, name, impl.ErrInvalid, eight, x)
	}
	whole := deepAlgebra(5)
	for _, pair := range [][2]impl.Algebra{{a, whole}, {whole, a}, {a, a}} {
		both, nine := impl.BothAlgebras(pair[0], pair[1])
		expectError(t, name, impl.ErrInvalid, nine, both)
		unlike, ten := impl.FirstMatchedUnlike(pair[0], pair[1])
		expectError(t, name, impl.ErrInvalid, ten, unlike)
	}
}

func TestBrokenAlgebras(t *testing.T) {
	words := []string{"", "(a)", "(", "c"}
	for i, a := range brokenAlgebras() {
		expectNoAlgebra(t, a, words[i%len(words)])
	}
}

func TestNoWordsHaveNoElements(t *testing.T) {
	for _, word := range noWords() {
		element, one := impl.ElementOf(deepAlgebra(2), word)
		expectError(t, "ElementOf", impl.ErrInvalid, one, element)
		takes, two := impl.AlgebraTakes(deepAlgebra(2), word)
		expectError(t, "AlgebraTakes", impl.ErrInvalid, two, takes)
	}
}

// wantedAlgebra returns what AlgebraOf should return.
func wantedAlgebra(c impl.Checker) (impl.Algebra, bool) {
	values, _, fits := firstWordsOf(ofStates(c), impl.MaxClasses)
	if !fits {
		return impl.Algebra{}, false
	}
	takes := func(value string) bool { return c.Accept[value[c.Start]] }
	return algebraOn(ofStates(c), values, takes), true
}

func TestAlgebraOf(t *testing.T) {
	t.Parallel()
	found, limits := 0, 0
	short := shortMatched(5)
	for _, c := range classCheckers() {
		want, fits := wantedAlgebra(c)
		a, code := impl.AlgebraOf(c)
		if !fits {
			limits++
			expectError(t, told("AlgebraOf", c), impl.ErrLimit, code, a)
			continue
		}
		found++
		expectAlgebra(t, told("AlgebraOf", c), want, a, code)
		if !impl.ValidAlgebra(a) {
			t.Errorf("the algebra of %v is not valid", c)
		}
		for i := found % 7; i < len(short); i += 7 {
			takes, code := impl.AlgebraTakes(a, short[i])
			if takes != takesByPlaces(c, short[i]) || code != impl.OK {
				t.Fatalf("%v and %q: got %v and the code %d", c, short[i], takes, code)
			}
		}
	}
	if found < 60 || limits < 20 {
		t.Errorf("%d algebras and %d limits", found, limits)
	}
}

// TestFirstWordsAreFirst looks at all short matched words.
func TestFirstWordsAreFirst(t *testing.T) {
	short := shortMatched(5)
	for i, c := range classCheckers() {
		a, code := impl.AlgebraOf(c)
		if code != impl.OK || i%3 > 0 {
			continue
		}
		words, code := impl.FirstWords(a)
		if code != impl.OK || !slices.IsSortedFunc(words, compareWords) {
			t.Errorf("%v: the words are %v, with the code %d", c, words, code)
		}
		met := int64(0)
		for _, word := range short {
			element, _ := impl.ElementOf(a, word)
			if element > met || element == met && words[met] != word {
				t.Fatalf("%v: %q has the element %d, and the first words are %q", c, word, element, words)
			}
			if element == met {
				met++
			}
			if met == int64(len(words)) {
				break
			}
		}
	}
}

func TestFirstWords(t *testing.T) {
	codes := map[int64]int{}
	for _, a := range sampleAlgebras() {
		values, firsts, fits := firstWordsOf(ofElements(a), impl.MaxClasses)
		words, code := impl.FirstWords(a)
		trimmed, again := impl.TrimAlgebra(a)
		codes[code]++
		f := reachedElements(a)
		if !fits {
			expectError(t, told("TrimAlgebra", a), impl.ErrLimit, again, trimmed)
		} else {
			want := algebraOn(ofElements(a), values, func(value string) bool { return a.Accept[value[0]] })
			expectAlgebra(t, told("TrimAlgebra", a), want, trimmed, again)
		}
		switch {
		case len(f) < len(a.Accept):
			expectError(t, told("FirstWords", a), impl.ErrState, code, words)
		case !fits:
			expectError(t, told("FirstWords", a), impl.ErrLimit, code, words)
		default:
			want := make([]string, len(values))
			for i, value := range values {
				want[value[0]] = firsts[i]
			}
			expect(t, told("FirstWords", a), told(want, 0), words, code)
		}
	}
	if codes[impl.OK] < 20 || codes[impl.ErrState] < 20 || codes[impl.ErrLimit] < 2 {
		t.Errorf("the codes are %v", codes)
	}
}

// reachedElements returns the elements of words, however long these are.
func reachedElements(a impl.Algebra) []int64 {
	reached := []int64{0, a.Inner[0], a.Inner[1]}
	for {
		more := slices.Clone(reached)
		for _, i := range reached {
			for pair := range 4 {
				more = append(more, a.Wrap[pair][i])
			}
			for _, k := range reached {
				more = append(more, a.Product[i][k])
			}
		}
		if more = sortedSet(more); slices.Equal(more, sortedSet(reached)) {
			return more
		}
		reached = more
	}
}

func TestTrimmedAlgebrasAreTrimmed(t *testing.T) {
	for _, a := range sampleAlgebras() {
		trimmed, code := impl.TrimAlgebra(a)
		if code != impl.OK {
			continue
		}
		again, code := impl.TrimAlgebra(trimmed)
		expectAlgebra(t, "trimmed twice", trimmed, again, code)
		if impl.ValidAlgebra(trimmed) != true || len(trimmed.Accept) != len(reachedElements(a)) {
			t.Errorf("%v has %d elements", trimmed, len(trimmed.Accept))
		}
		words, code := impl.FirstWords(trimmed)
		if code != impl.OK || words[0] != "" || !slices.IsSortedFunc(words, compareWords) {
			t.Errorf("%v: the words are %q, with the code %d", trimmed, words, code)
		}
	}
}

// centredAlgebra is like deepAlgebra, but for the words with "a" in the middle.
func centredAlgebra(depth int64) impl.Algebra {
	a := deepAlgebra(depth)
	a.Inner[0], a.Wrap[0][0] = 1, a.Inner[1]
	return a
}

func TestLongestFirstWordsOfElements(t *testing.T) {
	calls := func(depth int) string { return strings.Repeat("(", depth) + strings.Repeat(")", depth) }
	words, one := impl.FirstWords(deepAlgebra(30))
	expect(t, "60 symbols", told(32, calls(29), calls(30), "a", 0), len(words), words[29], words[30], words[31], one)
	none, two := impl.FirstWords(deepAlgebra(31))
	expectError(t, "62 symbols", impl.ErrLimit, two, none)
	words, three := impl.FirstWords(centredAlgebra(30))
	expect(t, "59 symbols", told(strings.Repeat("(", 29)+"a"+strings.Repeat(")", 29), 0), words[30], three)
	none, four := impl.FirstWords(centredAlgebra(31))
	expectError(t, "61 symbols", impl.ErrLimit, four, none)
	trimmed, five := impl.TrimAlgebra(deepAlgebra(30))
	expect(t, "TrimAlgebra", told(32, 0), len(trimmed.Accept), five)
	merged, six := impl.MergeAlgebra(deepAlgebra(30))
	expect(t, "MergeAlgebra", told(32, 0), len(merged.Accept), six)
	for _, a := range []impl.Algebra{deepAlgebra(31), centredAlgebra(31), deepAlgebra(38)} {
		trimmed, seven := impl.TrimAlgebra(a)
		expectError(t, "TrimAlgebra", impl.ErrLimit, seven, trimmed)
		merged, eight := impl.MergeAlgebra(a)
		expectError(t, "MergeAlgebra", impl.ErrLimit, eight, merged)
		both, nine := impl.BothAlgebras(a, deepAlgebra(0))
		expectError(t, "BothAlgebras", impl.ErrLimit, nine, both)
		word, ten := impl.FirstMatchedUnlike(deepAlgebra(0), a)
		expectError(t, "FirstMatchedUnlike", impl.ErrLimit, ten, word)
		x, eleven := impl.ContextApart(a, 0, int64(slices.Index(a.Accept, true)))
		expectError(t, "ContextApart", impl.ErrLimit, eleven, x)
		// An element of no word comes ahead of a word that is too long.
		a = withStranger(a)
		if len(a.Accept) <= impl.MaxClasses {
			none, twelve := impl.FirstWords(a)
			expectError(t, "FirstWords", impl.ErrState, twelve, none)
		}
	}
	// The last element is that of words that are too long alone.
	a := deepAlgebra(31)
	a.Wrap[0][30] = 32
	none, code := impl.FirstWords(a)
	expectError(t, "no word", impl.ErrState, code, none)
	trimmed, code = impl.TrimAlgebra(a)
	expect(t, "without the last but one", told(32, 0), len(trimmed.Accept), code)
}

// withStranger returns an algebra with an element more, which is no word's.
func withStranger(a impl.Algebra) impl.Algebra {
	size := int64(len(a.Accept))
	b := copiedAlgebra(a)
	for i := range b.Product {
		b.Product[i] = append(b.Product[i], size)
	}
	b.Product = append(b.Product, slices.Repeat([]int64{size}, int(size)+1))
	for pair := range b.Wrap {
		b.Wrap[pair] = append(b.Wrap[pair], size)
	}
	b.Accept = append(b.Accept, false)
	return b
}

// countingBoth counts two symbols, and takes the words in which both can be
// divided.
func countingBoth(first string, one int64, second string, two int64) impl.Checker {
	c, _ := impl.CountChecker(first, one)
	d, _ := impl.CountChecker(second, two)
	both, _ := impl.BothCheckers(c, d)
	return both
}

// chainChecker goes from state to state at "a", up to the last one, and starts
// again at "b": it has one summary for each number of "a", and one for each state.
func chainChecker(states int64) impl.Checker {
	c := evenChecker(states, 1, 0, 0)
	for state := range states {
		c.Inner[state][0] = min(state+1, states-1)
		for kind := range 2 {
			c.Call[state][kind].To = state
			c.Return[state][kind][0] = state
		}
	}
	c.Accept[states-1] = true
	return c
}

// roundChecker goes from state to state at "a", and behind the last one on from
// the one that is so many ahead; it starts again at a call, and at a return.
func roundChecker(states, round int64) impl.Checker {
	c := evenChecker(states, 1, 0, 0)
	for state := range states {
		c.Inner[state] = []int64{state + 1, state}
	}
	c.Inner[states-1][0] = states - round
	return c
}

func TestManyElements(t *testing.T) {
	for _, c := range []impl.Checker{countingBoth("a", 5, "b", 8), countingBoth("a", 20, "b", 2), countingBoth("a", 4, "(", 10)} {
		a, code := impl.AlgebraOf(c)
		least, again := impl.LeastAlgebra(c)
		expect(t, "40 summaries", told(40, 0, true, 40, 0), len(a.Accept), code, impl.ValidAlgebra(a), len(least.Accept), again)
		trimmed, code := impl.TrimAlgebra(a)
		expectAlgebra(t, "40 elements", a, trimmed, code)
	}
	// One for each state is that of words of "a", and one that of words behind "()".
	a, code := impl.AlgebraOf(roundChecker(20, 3))
	expect(t, "40 summaries", told(40, 0), len(a.Accept), code)
	least, code := impl.LeastAlgebra(roundChecker(20, 3))
	expect(t, "one element", told(1, 0), len(least.Accept), code)
	a, code = impl.AlgebraOf(chainChecker(20))
	expect(t, "39 summaries", told(39, 0), len(a.Accept), code)
	// These would have one element as well, but have 41, 42 and more summaries.
	for _, c := range []impl.Checker{chainChecker(21), roundChecker(21, 3), roundChecker(40, 1)} {
		c.Accept = make([]bool, len(c.Accept))
		a, code := impl.AlgebraOf(c)
		expectError(t, "too many summaries", impl.ErrLimit, code, a)
		least, code := impl.LeastAlgebra(c)
		expectError(t, "too many summaries", impl.ErrLimit, code, least)
	}
}

func TestLongestFirstWordsOfSummaries(t *testing.T) {
	for symbol, longest := range map[string]string{"(": "()", "[": "[)", ")": "()", "]": "(]"} {
		c, _ := impl.CountChecker(symbol, 31)
		a, one := impl.AlgebraOf(c)
		words, two := impl.FirstWords(a)
		expect(t, symbol, told(31, 0, strings.Repeat(longest[:1], 30)+strings.Repeat(longest[1:], 30), 0), len(a.Accept), one, words[30], two)
		c, _ = impl.CountChecker(symbol, 32)
		a, three := impl.AlgebraOf(c)
		expectError(t, symbol, impl.ErrLimit, three, a)
		a, four := impl.LeastAlgebra(c)
		expectError(t, symbol, impl.ErrLimit, four, a)
	}
}

func TestAlgebrasOfOneElement(t *testing.T) {
	for _, c := range []impl.Checker{impl.MatchedChecker(), evenChecker(1, 1, 0, 0), evenChecker(1, 80, 0, 79)} {
		a, one := impl.AlgebraOf(c)
		want := impl.Algebra{Product: [][]int64{{0}}, Wrap: [][]int64{{0}, {0}, {0}, {0}}, Inner: []int64{0, 0}, Accept: []bool{c.Accept[0]}}
		expectAlgebra(t, "AlgebraOf", want, a, one)
		words, two := impl.FirstWords(a)
		alike, three := impl.AlikeIn(a)
		learnt, list, contexts, four := impl.LearnAlgebra(c)
		expect(t, "one element", "[] 0 [0] 0 [] [{ }] 0", words, two, alike, three, list, contexts, four)
		expectAlgebra(t, "LearnAlgebra", want, learnt, four)
		trimmed, five := impl.TrimAlgebra(a)
		expectAlgebra(t, "TrimAlgebra", want, trimmed, five)
		merged, six := impl.MergeAlgebra(a)
		expectAlgebra(t, "MergeAlgebra", want, merged, six)
	}
}

func TestNoAlgebrasOfBrokenCheckers(t *testing.T) {
	for _, c := range brokenCheckers() {
		a, one := impl.AlgebraOf(c)
		expectError(t, "AlgebraOf", impl.ErrInvalid, one, a)
		least, two := impl.LeastAlgebra(c)
		expectError(t, "LeastAlgebra", impl.ErrInvalid, two, least)
		learnt, words, contexts, three := impl.LearnAlgebra(c)
		expectError(t, "LearnAlgebra", impl.ErrInvalid, three, learnt, words, contexts)
		apart, four := impl.TellsApart(c, "", "(", impl.Context{})
		expectError(t, "TellsApart", impl.ErrInvalid, four, apart)
		row, five := impl.RowOf(c, "(", make([]impl.Context, impl.MaxContexts+1))
		expectError(t, "RowOf", impl.ErrInvalid, five, row)
	}
}
