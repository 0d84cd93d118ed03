package tests

import (
	"slices"
	"strings"
	"testing"

	"loop.example/g01145/impl"
)

// resultsOfAlgebras calls each function of the chapter that has algebras as
// arguments, and returns all results.
func resultsOfAlgebras(a, b impl.Algebra, u string, i, k int64) []any {
	element, one := impl.ElementOf(a, u)
	takes, two := impl.AlgebraTakes(a, u)
	words, three := impl.FirstWords(a)
	trimmed, four := impl.TrimAlgebra(a)
	alike, five := impl.AlikeIn(a)
	merged, six := impl.MergeAlgebra(a)
	both, seven := impl.BothAlgebras(a, b)
	unlike, eight := impl.FirstMatchedUnlike(a, b)
	x, nine := impl.ContextApart(a, i, k)
	c, ten := impl.CheckerOfAlgebra(a)
	return []any{impl.ValidAlgebra(a), impl.SameAlgebra(a, b), element, one, takes, two, words, three, trimmed, four, alike, five, merged, six,
		both, seven, unlike, eight, x, nine, c, ten}
}

// resultsOfClasses calls the other functions of the chapter.
func resultsOfClasses(c impl.Checker, u, v string, list []impl.Context) []any {
	a, one := impl.AlgebraOf(c)
	least, two := impl.LeastAlgebra(c)
	x := impl.Context{}
	if len(list) > 0 {
		x = list[0]
	}
	apart, three := impl.TellsApart(c, u, v, x)
	row, four := impl.RowOf(c, u, list)
	learnt, words, contexts, five := impl.LearnAlgebra(c)
	return []any{a, one, least, two, apart, three, row, four, learnt, words, contexts, five}
}

func roomyLists(lists [][]int64) [][]int64 {
	lists = copiedLists(lists)
	for i, list := range lists {
		lists[i] = roomyNumbers(list)
	}
	return roomy(lists, nil)
}

// roomyAlgebra returns an algebra with unused capacity behind all lists.
func roomyAlgebra(a impl.Algebra) impl.Algebra {
	return impl.Algebra{
		Product: roomyLists(a.Product),
		Wrap:    roomyLists(a.Wrap),
		Inner:   roomyNumbers(a.Inner),
		Accept:  roomy(a.Accept, true),
	}
}

func TestFunctionsOfAlgebrasArePure(t *testing.T) {
	t.Parallel()
	l := lottery(173)
	list := slices.Concat(sampleAlgebras(), brokenAlgebras())
	words := append(randomWords(1)[:20], "", "(a[b])", "([b)", "c", "(a)b[](]", strings.Repeat("a", impl.MaxWord+1))
	for n, a := range list {
		if n%2 > 0 && len(a.Accept) > 7 {
			continue // enough of these are looked at
		}
		a, b := roomyAlgebra(a), roomyAlgebra(list[l.below(int64(len(list)))])
		u, i, k := words[l.below(int64(len(words)))], l.below(8)-1, l.below(4)
		before := withUnused(a, b)
		first, crossed := resultsOfAlgebras(a, b, u, i, k), resultsOfAlgebras(b, a, u, k, i)
		second := resultsOfAlgebras(copiedAlgebra(a), copiedAlgebra(b), strings.Clone(u), i, k)
		if withUnused(a, b) != before {
			t.Fatalf("%v and %v: an argument is modified", a, b)
		}
		if told(first...) != told(second...) {
			t.Fatalf("%v and %v: equal arguments have other results", a, b)
		}
		checkApart(t, slices.Concat([]any{a, b}, first, crossed))
	}
}

func TestFunctionsOfClassesArePure(t *testing.T) {
	t.Parallel()
	l := lottery(179)
	list := slices.Concat(learnableCheckers(), brokenCheckers()[:150])
	words := append(matchedOnly(sampleWords())[:300], "(", "c")
	for _, c := range list {
		c = roomyChecker(c)
		u, v := words[l.below(int64(len(words)))], words[l.below(int64(len(words)))]
		contexts := roomy([]impl.Context{{}, {Front: "(", Back: "]"}, {Front: u, Back: v}}, impl.Context{Front: "a"})
		before := withUnused(c, contexts)
		first, again := resultsOfClasses(c, u, v, contexts), resultsOfClasses(c, u, v, contexts)
		second := resultsOfClasses(copied(c), strings.Clone(u), strings.Clone(v), slices.Clone(contexts))
		if withUnused(c, contexts) != before {
			t.Fatalf("%v: an argument is modified", c)
		}
		if told(first...) != told(second...) {
			t.Fatalf("%v: equal arguments have other results", c)
		}
		checkApart(t, slices.Concat([]any{c, contexts}, first, again))
	}
}

func TestLargeAlgebrasComeBack(t *testing.T) {
	const most = 1000000
	long := make([]int64, most)
	wide := powers(3, true)
	wide.Product[2] = long
	for _, large := range []impl.Algebra{
		{Product: make([][]int64, most), Wrap: make([][]int64, 4), Inner: []int64{0, 0}, Accept: []bool{true}},
		{Product: [][]int64{{0}}, Wrap: make([][]int64, most), Inner: []int64{0, 0}, Accept: []bool{true}},
		{Product: [][]int64{long}, Wrap: make([][]int64, 4), Inner: []int64{0, 0}, Accept: []bool{true}},
		{Product: [][]int64{{0}}, Wrap: [][]int64{{0}, {0}, {0}, long}, Inner: []int64{0, 0}, Accept: []bool{true}},
		{Product: [][]int64{{0}}, Wrap: [][]int64{{0}, {0}, {0}, {0}}, Inner: long, Accept: []bool{true}},
		{Product: make([][]int64, most/2), Wrap: make([][]int64, 4), Inner: []int64{0, 0}, Accept: make([]bool, most/2)},
		wide,
	} {
		if impl.ValidAlgebra(large) || !impl.SameAlgebra(large, copiedAlgebra(large)) {
			t.Error("large algebras are the same as their copy, and not valid")
		}
		expectNoAlgebra(t, large, "()")
	}
	row, code := impl.RowOf(impl.MatchedChecker(), "()", make([]impl.Context, most/2))
	expectError(t, "RowOf", impl.ErrRange, code, row)
	text := strings.Repeat("(", most)
	apart, code := impl.TellsApart(impl.MatchedChecker(), "", "", impl.Context{Front: text, Back: text})
	expectError(t, "TellsApart", impl.ErrInvalid, code, apart)
}
