package tests

import (
	"slices"
	"strings"
	"testing"

	"loop.example/g01145/impl"
)

// resultsOfChoices calls each function of the chapter that has choices as
// arguments, and returns all results.
func resultsOfChoices(m, n impl.Choices, w string) []any {
	either, one := impl.EitherChoices(m, n)
	takes, two := impl.ChoicesTake(m, w)
	states, three := impl.StatesAfter(m, w)
	pairs, four := impl.PairsOf(m, w)
	checker, five := impl.CheckerOf(m)
	first, six := impl.FirstOfChoices(m)
	return []any{impl.ValidChoices(m), impl.SameChoices(m, n), either, one, takes, two, states, three, pairs, four, checker, five, first, six}
}

// resultsOfSearches calls the other functions of the chapter.
func resultsOfSearches(c, d impl.Checker, s, to int64) []any {
	choices, one := impl.ChoicesOf(c)
	between, two := impl.MatchedBetween(c, s, to)
	reached, three := impl.ReachedBy(c)
	empty, four := impl.IsEmpty(c)
	first, five := impl.FirstTaken(c)
	unlike, six := impl.FirstDifference(c, d)
	equal, seven := impl.AreEqual(c, d)
	count, eight := impl.CountTaken(c, to%4)
	return []any{choices, one, between, two, reached, three, empty, four, first, five, unlike, six, equal, seven, count, eight}
}

// roomyChoices returns choices with unused capacity behind all lists.
func roomyChoices(m impl.Choices) impl.Choices {
	m = copiedChoices(m)
	for _, list := range stateListsIn(&m) {
		*list = roomyNumbers(*list)
	}
	for _, list := range pushListsIn(&m) {
		*list = roomy(*list, impl.Push{To: -77, Put: -77})
	}
	for state, lists := range m.Call {
		m.Call[state] = roomy(lists, nil)
	}
	for state, lists := range m.Return {
		for kind, ofMarks := range lists {
			lists[kind] = roomy(ofMarks, nil)
		}
		m.Return[state] = roomy(lists, nil)
	}
	for state, lists := range m.Inner {
		m.Inner[state] = roomy(lists, nil)
	}
	m.Accept = roomy(m.Accept, true)
	m.Call, m.Return, m.Inner = roomy(m.Call, nil), roomy(m.Return, nil), roomy(m.Inner, nil)
	return m
}

func TestFunctionsOfChoicesArePure(t *testing.T) {
	t.Parallel()
	l := lottery(83)
	list := append(sampleChoices(), brokenChoices()[:150]...)
	words := append(randomWords(1)[:40], "(a[b])", "([b)", "", "c", strings.Repeat("a", impl.MaxWord+1))
	for i, m := range list {
		m, n := roomyChoices(m), roomyChoices(list[i%20])
		for range 2 {
			w := words[l.below(int64(len(words)))]
			before := withUnused(m, n)
			first, crossed := resultsOfChoices(m, n, w), resultsOfChoices(n, m, w)
			second := resultsOfChoices(copiedChoices(m), copiedChoices(n), strings.Clone(w))
			if withUnused(m, n) != before {
				t.Fatalf("%q: an argument is modified", w)
			}
			if told(first...) != told(second...) {
				t.Fatalf("%q: equal arguments have other results", w)
			}
			checkApart(t, slices.Concat([]any{m, n}, first, crossed))
		}
	}
}

func TestSearchesArePure(t *testing.T) {
	l := lottery(89)
	list := slices.Concat(choiceCheckers(), sparseCheckers(), sampleCheckers(), brokenCheckers()[:150])
	for i, c := range list {
		c, d := roomyChecker(c), roomyChecker(list[i%20])
		s, to := l.below(6), l.below(6)
		before := withUnused(c, d)
		first, crossed := resultsOfSearches(c, d, s, to), resultsOfSearches(d, c, to, s)
		second := resultsOfSearches(copied(c), copied(d), s, to)
		if withUnused(c, d) != before {
			t.Fatalf("%d and %d: an argument is modified", s, to)
		}
		if told(first...) != told(second...) {
			t.Fatalf("%d and %d: equal arguments have other results", s, to)
		}
		checkApart(t, slices.Concat([]any{c, d}, first, crossed))
	}
}

func TestLargeChoicesComeBack(t *testing.T) {
	const most = 1000000
	m, long := guessedReturn(), make([]int64, most)
	rising := slices.Clone(long)
	for i := range rising {
		rising[i] = int64(i)
	}
	for _, large := range []impl.Choices{
		{Stack: 1, Accept: make([]bool, most)}, {Stack: 1, Starts: long, Accept: []bool{true}, Call: make([][][]impl.Push, 1), Return: make([][][][]int64, 1), Inner: make([][][]int64, 1)},
		{Stack: 1, Starts: rising, Accept: []bool{true}, Call: make([][][]impl.Push, 1), Return: make([][][][]int64, 1), Inner: make([][][]int64, 1)},
		{Stack: 1, Accept: []bool{true}, Call: [][][]impl.Push{{make([]impl.Push, most/2), nil}}, Return: [][][][]int64{{noMoves(), noMoves()}}, Inner: [][][]int64{noMoves()}},
		{Stack: 1, Accept: []bool{true}, Call: [][][]impl.Push{{nil, nil}}, Return: [][][][]int64{{noMoves(), noMoves()}}, Inner: [][][]int64{{rising, nil}}},
		{Stack: 1, Accept: []bool{true}, Call: [][][]impl.Push{{nil, nil}}, Return: [][][][]int64{{noMoves(), {long, nil}}}, Inner: [][][]int64{noMoves()}},
		{Stack: most - 1, Accept: []bool{true}, Call: [][][]impl.Push{{nil, nil}}, Return: [][][][]int64{{make([][]int64, most), noMoves()}}, Inner: [][][]int64{noMoves()}},
	} {
		if impl.ValidChoices(large) || !impl.SameChoices(large, copiedChoices(large)) {
			t.Error("large choices are the same as their copy, and not valid")
		}
		expectInvalidWays(t, large, "()")
		for _, pair := range [][2]impl.Choices{{large, m}, {m, large}} {
			either, code := impl.EitherChoices(pair[0], pair[1])
			expectError(t, "EitherChoices", impl.ErrInvalid, code, either)
		}
	}
}
