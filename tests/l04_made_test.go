package tests

import (
	"slices"
	"strings"
	"testing"

	"loop.example/g01145/impl"
)

// middlingAlgebras returns algebras of which some pairs have too many elements.
func middlingAlgebras() []impl.Algebra {
	var list []impl.Algebra
	for _, a := range sampleAlgebras() {
		if size := len(a.Accept); size > 1 && size < 13 {
			list = append(list, a)
		}
	}
	return list
}

func TestBothAlgebras(t *testing.T) {
	l := lottery(157)
	list := middlingAlgebras()
	codes := map[int64]int{}
	for _, a := range list {
		b := list[l.below(int64(len(list)))]
		m := ofBoth(ofElements(a), ofElements(b))
		values, _, fits := firstWordsOf(m, impl.MaxClasses)
		both, code := impl.BothAlgebras(a, b)
		codes[code]++
		if !fits {
			expectError(t, told("BothAlgebras", a, b), impl.ErrLimit, code, both)
			continue
		}
		want := algebraOn(m, values, func(value string) bool { return a.Accept[value[0]] && b.Accept[value[2]] })
		expectAlgebra(t, told("BothAlgebras", a, b), want, both, code)
		if !impl.ValidAlgebra(both) {
			t.Errorf("%v is not valid", both)
		}
	}
	if codes[impl.OK] < 100 || codes[impl.ErrLimit] < 5 {
		t.Errorf("the codes are %v", codes)
	}
}

func TestBothAlgebrasTakeWhatBothTake(t *testing.T) {
	list := middlingAlgebras()
	words := shortMatched(4)
	for i, a := range list {
		b := list[(3*i+1)%len(list)]
		both, code := impl.BothAlgebras(a, b)
		if code != impl.OK {
			continue
		}
		for k := i % 17; k < len(words); k += 17 {
			one, _ := impl.AlgebraTakes(a, words[k])
			two, _ := impl.AlgebraTakes(b, words[k])
			takes, code := impl.AlgebraTakes(both, words[k])
			expect(t, words[k], told(one && two, 0), takes, code)
		}
	}
}

func TestFirstMatchedUnlike(t *testing.T) {
	l := lottery(163)
	list := middlingAlgebras()
	codes := map[int64]int{}
	for i, a := range list {
		b := list[l.below(int64(len(list)))]
		if i%4 == 0 {
			b, _ = impl.TrimAlgebra(a)
		}
		if i%5 == 0 {
			b.Accept = slices.Clone(b.Accept)
			b.Accept[len(b.Accept)-1] = !b.Accept[len(b.Accept)-1]
		}
		values, words, fits := firstWordsOf(ofBoth(ofElements(a), ofElements(b)), impl.MaxClasses)
		first := slices.IndexFunc(values, func(value string) bool { return a.Accept[value[0]] != b.Accept[value[2]] })
		word, code := impl.FirstMatchedUnlike(a, b)
		again, same := impl.FirstMatchedUnlike(b, a)
		expect(t, "the other way round", told(word, code), again, same)
		codes[code]++
		switch {
		case !fits:
			expectError(t, told("FirstMatchedUnlike", a, b), impl.ErrLimit, code, word)
		case first < 0:
			expectError(t, told("FirstMatchedUnlike", a, b), impl.ErrNotFound, code, word)
		default:
			expect(t, told("FirstMatchedUnlike", a, b), told(words[first], 0), word, code)
		}
	}
	if codes[impl.OK] < 80 || codes[impl.ErrNotFound] < 20 || codes[impl.ErrLimit] < 5 {
		t.Errorf("the codes are %v", codes)
	}
}

// TestFirstMatchedUnlikeIsFirst looks at all short matched words.
func TestFirstMatchedUnlikeIsFirst(t *testing.T) {
	l := lottery(167)
	words := shortMatched(4)
	for range 80 {
		c, d := l.checker(2, 1), l.checker(1+l.below(2), 2)
		a, _ := impl.AlgebraOf(c)
		b, _ := impl.AlgebraOf(d)
		word, code := impl.FirstMatchedUnlike(a, b)
		if code == impl.ErrLimit {
			continue
		}
		first := slices.IndexFunc(words, func(w string) bool { return takesByPlaces(c, w) != takesByPlaces(d, w) })
		if first >= 0 {
			expect(t, told(c, d), told(words[first], 0), word, code)
		} else if code == impl.OK && len(word) <= 4 {
			t.Errorf("%v and %v: %q", c, d, word)
		}
	}
}

// powers has elements for the numbers of "a" up to last, and one for all others
// is like the last one; or, round and round, with the last one ahead of 0.
func powers(last int64, round bool) impl.Algebra {
	l := lottery(0)
	product := products(last)[1]
	if round {
		product = products(last)[0]
	}
	a := l.algebra(last+1, 1, product)
	a.Inner = []int64{1 % (last + 1), 0}
	a.Accept = make([]bool, last+1)
	a.Accept[last] = true
	return a
}

func TestManyPairs(t *testing.T) {
	for _, known := range []struct {
		last, round int64
		elements    int
	}{{35, 4, 40}, {36, 4, 0}, {31, 8, 40}, {39, 0, 40}, {39, 1, 0}, {0, 39, 40}, {30, 39, 0}, {39, 39, 0}} {
		a, b := powers(known.last, false), powers(known.round, true)
		both, one := impl.BothAlgebras(a, b)
		word, two := impl.FirstMatchedUnlike(a, b)
		if known.elements == 0 {
			expectError(t, told("BothAlgebras", known), impl.ErrLimit, one, both)
			expectError(t, told("FirstMatchedUnlike", known), impl.ErrLimit, two, word)
			continue
		}
		most := min(known.last, known.round)
		if known.last == known.round {
			most = -1
		}
		expect(t, told(known), told(known.elements, 0, strings.Repeat("a", int(most)), 0), len(both.Accept), one, word, two)
	}
	// The empty word would be an answer.
	a, b := powers(36, false), powers(4, true)
	b.Accept[0] = true
	word, code := impl.FirstMatchedUnlike(a, b)
	expectError(t, "too many pairs", impl.ErrLimit, code, word)
	a, b = deepAlgebra(31), powers(0, false)
	word, code = impl.FirstMatchedUnlike(a, b)
	expectError(t, "a word that is too long", impl.ErrLimit, code, word)
}

func TestLongestWordsOfPairs(t *testing.T) {
	one := impl.Algebra{Product: [][]int64{{0}}, Wrap: [][]int64{{0}, {0}, {0}, {0}}, Inner: []int64{0, 0}, Accept: []bool{false}}
	for _, known := range []struct {
		algebra impl.Algebra
		word    string
	}{
		{deepAlgebra(30), strings.Repeat("(", 30) + strings.Repeat(")", 30)},
		{tailedAlgebra(29), strings.Repeat("(", 29) + strings.Repeat(")", 29) + "a"},
		{deepAlgebra(31), ""}, {tailedAlgebra(30), ""}, {deepAlgebra(38), ""},
	} {
		word, code := impl.FirstMatchedUnlike(known.algebra, one)
		both, again := impl.BothAlgebras(one, known.algebra)
		if known.word == "" {
			expectError(t, "too long", impl.ErrLimit, code, word)
			expectError(t, "too long", impl.ErrLimit, again, both)
			continue
		}
		expect(t, "the longest", told(known.word, 0, len(known.algebra.Accept), 0), word, code, len(both.Accept), again)
		known.algebra.Accept = make([]bool, len(known.algebra.Accept))
		word, code = impl.FirstMatchedUnlike(known.algebra, one)
		expectError(t, "the same", impl.ErrNotFound, code, word)
	}
}

// checkerByPairs returns what CheckerOfAlgebra should return: its states are
// pairs of an element and of whether a call is open, and a last one.
func checkerByPairs(a impl.Algebra) impl.Checker {
	n := int64(len(a.Accept))
	last := 2 * n
	c := impl.Checker{Stack: 2 * (last + 1)}
	for s := range last + 1 {
		calls := []impl.Push{{To: n, Put: 2 * s}, {To: n, Put: 2*s + 1}}
		inner := []int64{last, last}
		if s == last {
			calls[0].To, calls[1].To = last, last
		} else {
			inner = []int64{s/n*n + a.Product[s%n][a.Inner[0]], s/n*n + a.Product[s%n][a.Inner[1]]}
		}
		returns := make([][]int64, 2)
		for kind := range returns {
			returns[kind] = slices.Repeat([]int64{last}, int(c.Stack)+1)
			for mark := range 2 * last {
				if from := mark / 2; s >= n && s < last {
					returns[kind][mark] = from/n*n + a.Product[from%n][a.Wrap[2*int(mark%2)+kind][s-n]]
				}
			}
		}
		c.Accept = append(c.Accept, s < n && a.Accept[s])
		c.Call, c.Return, c.Inner = append(c.Call, calls), append(c.Return, returns), append(c.Inner, inner)
	}
	return c
}

func TestCheckerOfAlgebra(t *testing.T) {
	codes := map[int64]int{}
	for _, a := range sampleAlgebras() {
		c, code := impl.CheckerOfAlgebra(a)
		codes[code]++
		if len(a.Accept) > 19 {
			expectError(t, told("CheckerOfAlgebra", a), impl.ErrLimit, code, c)
			continue
		}
		want := checkerByPairs(a)
		if code != impl.OK || !impl.ValidChecker(c) || !impl.SameChecker(c, want) {
			t.Errorf("CheckerOfAlgebra of %v: got the code %d and %v, want %v", a, code, c, want)
		}
	}
	if codes[impl.OK] < 100 || codes[impl.ErrLimit] < 20 {
		t.Errorf("the codes are %v", codes)
	}
}

func TestCheckersOfAlgebrasHaveAtMostMaxStates(t *testing.T) {
	for _, a := range []impl.Algebra{powers(18, true), deepAlgebra(17), bareAlgebra(19)} {
		c, code := impl.CheckerOfAlgebra(a)
		expect(t, "19 elements", told(39, 78, true, 0), len(c.Accept), c.Stack, impl.ValidChecker(c), code)
	}
	for _, a := range []impl.Algebra{powers(19, true), deepAlgebra(18), bareAlgebra(20), bareAlgebra(21), powers(39, false)} {
		c, code := impl.CheckerOfAlgebra(a)
		expectError(t, "more elements", impl.ErrLimit, code, c)
	}
}

// TestCheckersOfAlgebrasTakeTheSame compares runs, by places, with elements.
func TestCheckersOfAlgebrasTakeTheSame(t *testing.T) {
	words := slices.Concat(sampleWords()[:1555], randomWords(2), shortMatched(4), matchedOnly(randomWords(20)))
	taken := 0
	for number, a := range sampleAlgebras() {
		c, code := impl.CheckerOfAlgebra(a)
		if code != impl.OK {
			continue
		}
		m := ofElements(a)
		for i := number % 41; i < len(words); i += 41 {
			want := coreByCancelling(words[i]) == "" && a.Accept[m.of(words[i])[0]]
			if takesByPlaces(c, words[i]) != want {
				t.Fatalf("%v and %q: taken is %v", a, words[i], !want)
			}
			if want {
				taken++
			}
		}
	}
	if taken < 1000 {
		t.Errorf("%d words are taken", taken)
	}
}

func TestCheckersComeBackFromTheirAlgebras(t *testing.T) {
	back := 0
	for _, c := range classCheckers() {
		least, code := impl.LeastAlgebra(c)
		if code != impl.OK {
			continue
		}
		d, code := impl.CheckerOfAlgebra(least)
		if len(least.Accept) > 19 {
			expectError(t, "CheckerOfAlgebra", impl.ErrLimit, code, d)
			continue
		}
		again, code := impl.LeastAlgebra(d)
		expectAlgebra(t, told("there and back", c), least, again, code)
		back++
	}
	if back < 50 {
		t.Errorf("%d come back", back)
	}
}
