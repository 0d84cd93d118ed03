package tests

import (
	"slices"
	"strings"
	"testing"

	"loop.example/g01145/impl"
)

// apartPairs tells which elements a move to elements that are apart tells apart,
// too. Only words in the contexts count.
func apartPairs(a impl.Algebra) [][]bool {
	size, words := len(a.Accept), reachedElements(a)
	apart := make([][]bool, size)
	for i := range apart {
		for k := range size {
			apart[i] = append(apart[i], a.Accept[i] != a.Accept[k])
		}
	}
	isApart := func(i, k int) bool {
		for _, e := range words {
			if apart[a.Product[e][i]][a.Product[e][k]] || apart[a.Product[i][e]][a.Product[k][e]] {
				return true
			}
		}
		for _, bodies := range a.Wrap {
			if apart[bodies[i]][bodies[k]] {
				return true
			}
		}
		return false
	}
	for changed := true; changed; {
		changed = false
		for i := range size {
			for k := range size {
				if !apart[i][k] && isApart(i, k) {
					apart[i][k], changed = true, true
				}
			}
		}
	}
	return apart
}

func alikeByPairs(a impl.Algebra) []int64 {
	var least []int64
	for _, row := range apartPairs(a) {
		least = append(least, int64(slices.Index(row, false)))
	}
	return least
}

// mergedByPairs returns what MergeAlgebra should return.
func mergedByPairs(a impl.Algebra) (impl.Algebra, bool) {
	m := ofElements(a)
	values, _, fits := firstWordsOf(m, impl.MaxClasses)
	if !fits {
		return impl.Algebra{}, false
	}
	takes := func(value string) bool { return a.Accept[value[0]] }
	least := alikeByPairs(algebraOn(m, values, takes))
	// Each value becomes the first one that is alike.
	first := func(value string) string { return values[least[slices.Index(values, value)]] }
	merged := meaning{
		nothing: m.nothing,
		letters: []string{first(m.letters[0]), first(m.letters[1])},
		wrap:    func(pair int, body string) string { return first(m.wrap(pair, body)) },
		join:    func(front, back string) string { return first(m.join(front, back)) },
	}
	firsts := slices.DeleteFunc(slices.Clone(values), func(value string) bool { return first(value) != value })
	return algebraOn(merged, firsts, takes), true
}

func TestAlikeIn(t *testing.T) {
	merged, strangers := 0, 0
	for _, a := range sampleAlgebras() {
		want := alikeByPairs(a)
		alike, code := impl.AlikeIn(a)
		if code != impl.OK || !slices.Equal(alike, want) {
			t.Errorf("%v: alike are %v, with the code %d, want %v", a, alike, code, want)
		}
		words := reachedElements(a)
		for e, least := range want {
			if int64(e) != least {
				merged++
			} else if !slices.Contains(words, int64(e)) && e > 0 {
				strangers++
			}
		}
	}
	if merged < 100 || strangers < 100 {
		t.Errorf("%d elements are like lesser ones, and %d of no word are not", merged, strangers)
	}
}

// TestContextsHaveWordsAlone has an element 3 that tells 1 and others apart, and
// is that of no word.
func TestContextsHaveWordsAlone(t *testing.T) {
	a := bareAlgebra(6)
	a.Inner = []int64{1, 2}
	a.Product[1][3] = 4
	a.Accept[4] = true
	alike, code := impl.AlikeIn(a)
	expect(t, "3 is that of no word", "[0 0 0 3 4 0] 0", alike, code)
	x, code := impl.ContextApart(a, 1, 2)
	expectError(t, "ContextApart", impl.ErrNotFound, code, x)
	x, code = impl.ContextApart(a, 5, 3)
	expect(t, "ContextApart of an element of no word", "{a } 0", x, code)
	a.Inner[1] = 3
	alike, code = impl.AlikeIn(a)
	expect(t, "3 is that of b", "[0 1 2 3 4 2] 0", alike, code)
	x, code = impl.ContextApart(a, 2, 1)
	expect(t, "ContextApart", "{ b} 0", x, code)
}

func TestMergeAlgebra(t *testing.T) {
	t.Parallel()
	codes, smaller := map[int64]int{}, 0
	for _, a := range sampleAlgebras() {
		want, fits := mergedByPairs(a)
		merged, code := impl.MergeAlgebra(a)
		codes[code]++
		if !fits {
			expectError(t, told("MergeAlgebra", a), impl.ErrLimit, code, merged)
			continue
		}
		expectAlgebra(t, told("MergeAlgebra", a), want, merged, code)
		again, code := impl.MergeAlgebra(merged)
		expectAlgebra(t, "merged twice", merged, again, code)
		if !impl.ValidAlgebra(merged) {
			t.Errorf("%v is not valid", merged)
		}
		if trimmed, _ := impl.TrimAlgebra(a); len(merged.Accept) < len(trimmed.Accept) && len(merged.Accept) > 1 {
			smaller++
		}
		for _, word := range shortMatched(3) {
			one, _ := impl.AlgebraTakes(a, word)
			two, _ := impl.AlgebraTakes(merged, word)
			if one != two {
				t.Fatalf("%v and %q: merged %v", a, word, two)
			}
		}
	}
	if codes[impl.OK] < 100 || codes[impl.ErrLimit] < 2 || smaller < 20 {
		t.Errorf("the codes are %v, and %d are smaller", codes, smaller)
	}
}

// wantedLeast returns what LeastAlgebra should return.
func wantedLeast(c impl.Checker) (impl.Algebra, bool) {
	a, fits := wantedAlgebra(c)
	if !fits {
		return impl.Algebra{}, false
	}
	return mergedByPairs(a)
}

func TestLeastAlgebra(t *testing.T) {
	for _, c := range classCheckers() {
		want, fits := wantedLeast(c)
		least, code := impl.LeastAlgebra(c)
		if !fits {
			expectError(t, told("LeastAlgebra", c), impl.ErrLimit, code, least)
			continue
		}
		expectAlgebra(t, told("LeastAlgebra", c), want, least, code)
	}
}

// takeTheSame compares the matched words that two checkers of at most two states
// take.
func takeTheSame(t *testing.T, c, d impl.Checker) bool {
	t.Helper()
	one, _ := impl.BothCheckers(c, impl.MatchedChecker())
	two, _ := impl.BothCheckers(d, impl.MatchedChecker())
	same, code := impl.AreEqual(one, two)
	if code != impl.OK {
		t.Fatalf("AreEqual has the code %d", code)
	}
	return same
}

func TestLeastAlgebrasAreEqualJustForTheSameWords(t *testing.T) {
	l := lottery(131)
	var list []impl.Checker
	for i := range int64(45) {
		list = append(list, l.checker(1+i%2, 1+i%3))
	}
	list = append(list, impl.KindsChecker())
	same := 0
	for i, c := range list {
		for _, d := range list[:i] {
			one, code := impl.LeastAlgebra(c)
			two, again := impl.LeastAlgebra(d)
			want := takeTheSame(t, c, d)
			if impl.SameAlgebra(one, two) != want || code != impl.OK || again != impl.OK {
				t.Errorf("%v and %v: %v and %v are the least ones, with the codes %d and %d", c, d, one, two, code, again)
			}
			if want {
				same++
			}
		}
	}
	if same < 20 {
		t.Errorf("%d pairs take the same words", same)
	}
}

// TestLeastAlgebrasOfTheSameWords has checkers that take the same matched words,
// with more states or summaries.
func TestLeastAlgebrasOfTheSameWords(t *testing.T) {
	for _, c := range append(smallCheckers(), oddChecker(), impl.KindsChecker()) {
		least, code := impl.LeastAlgebra(c)
		if code != impl.OK {
			continue
		}
		opposite, _ := impl.OppositeChecker(c)
		twice, _ := impl.OppositeChecker(opposite)
		both, _ := impl.BothCheckers(c, c)
		either, _ := impl.EitherCheckers(c, c)
		trimmed, _ := impl.TrimChecker(c)
		matched, _ := impl.BothCheckers(c, impl.MatchedChecker())
		for _, d := range []impl.Checker{twice, both, either, trimmed, matched} {
			other, code := impl.LeastAlgebra(d)
			if len(d.Accept) == 0 || code == impl.ErrLimit {
				continue // too many states, or summaries
			}
			expectAlgebra(t, told("LeastAlgebra", d), least, other, code)
		}
		for e := range least.Accept {
			least.Accept[e] = !least.Accept[e]
		}
		other, code := impl.LeastAlgebra(opposite)
		expectAlgebra(t, told("the opposite of", c), least, other, code)
	}
}

// meeting is a pair of elements that has been met, and its context.
type meeting struct {
	first, second int64
	context       impl.Context
}

// meetings returns the pairs that are met from one, in order.
func (p meeting) meetings(a impl.Algebra, values, words []string) []meeting {
	var list []meeting
	x := p.context
	for i, value := range values {
		if words[i] != "" {
			e := value[0]
			list = append(list, meeting{a.Product[e][p.first], a.Product[e][p.second], impl.Context{Front: words[i] + x.Front, Back: x.Back}})
		}
	}
	for i, value := range values {
		if words[i] != "" {
			e := value[0]
			list = append(list, meeting{a.Product[p.first][e], a.Product[p.second][e], impl.Context{Front: x.Front, Back: x.Back + words[i]}})
		}
	}
	for pair, text := range pairTexts {
		list = append(list, meeting{a.Wrap[pair][p.first], a.Wrap[pair][p.second], impl.Context{Front: text[:1] + x.Front, Back: x.Back + text[1:]}})
	}
	return list
}

// wantedContext returns what ContextApart should return for two elements.
func wantedContext(a impl.Algebra, i, k int64) (impl.Context, int64) {
	values, words, fits := firstWordsOf(ofElements(a), impl.MaxClasses)
	switch {
	case !apartPairs(a)[i][k]:
		return impl.Context{}, impl.ErrNotFound
	case !fits:
		return impl.Context{}, impl.ErrLimit
	}
	list := []meeting{{first: i, second: k}}
	known := map[[2]int64]bool{{i, k}: true}
	for n := 0; ; n++ {
		p := list[n]
		if a.Accept[p.first] != a.Accept[p.second] {
			if len(p.context.Front) > impl.MaxWord || len(p.context.Back) > impl.MaxWord {
				return impl.Context{}, impl.ErrLimit
			}
			return p.context, impl.OK
		}
		for _, q := range p.meetings(a, values, words) {
			if pair := [2]int64{q.first, q.second}; !known[pair] {
				known[pair] = true
				list = append(list, q)
			}
		}
	}
}

func TestContextApart(t *testing.T) {
	t.Parallel()
	l := lottery(137)
	codes, long := map[int64]int{}, 0
	for _, a := range sampleAlgebras() {
		size := int64(len(a.Accept))
		for range 3 {
			i, k := l.below(size), l.below(size)
			want, code := wantedContext(a, i, k)
			x, got := impl.ContextApart(a, i, k)
			if x != want || got != code {
				t.Errorf("%v, %d and %d: got %q and %q, with the code %d, want %q and %q, with %d", a, i, k, x.Front, x.Back, got, want.Front, want.Back, code)
			}
			codes[code]++
			if len(x.Front+x.Back) > 2 {
				long++
			}
		}
	}
	if codes[impl.OK] < 500 || codes[impl.ErrNotFound] < 200 || codes[impl.ErrLimit] < 5 || long < 20 {
		t.Errorf("the codes are %v, and %d contexts are long", codes, long)
	}
}

func TestKnownContexts(t *testing.T) {
	// Words in front come ahead of words behind, and these ahead of brackets.
	a := deepAlgebra(3)
	for _, known := range []struct {
		i, k        int64
		front, back string
	}{
		{0, 1, "((()))", ""}, {4, 0, "((()))", ""}, {1, 2, "(", ")"}, {2, 4, "(", ")"}, {3, 0, "", ""}, {4, 3, "", ""}, {1, 4, "((", "))"},
	} {
		x, code := impl.ContextApart(a, known.i, known.k)
		expect(t, told(known.i, known.k), told(known.front, known.back, 0), x.Front, x.Back, code)
	}
	c, _ := impl.LeastAlgebra(impl.KindsChecker())
	d, _ := impl.LeastAlgebra(counting("b", 3))
	x, one := impl.ContextApart(c, 0, 1)
	y, two := impl.ContextApart(d, 1, 2)
	expect(t, "KindsChecker, and three times b", "{ } 0 {b } 0", x, one, y, two)
}

func counting(symbol string, modulus int64) impl.Checker {
	c, _ := impl.CountChecker(symbol, modulus)
	return c
}

func TestContextApartErrors(t *testing.T) {
	a := deepAlgebra(5)
	for _, i := range farNumbers() {
		for _, k := range []int64{0, 6, i} {
			if i >= 0 && i < 7 {
				continue
			}
			x, one := impl.ContextApart(a, i, k)
			expectError(t, told(i, k), impl.ErrRange, one, x)
			x, two := impl.ContextApart(a, k, i)
			expectError(t, told(k, i), impl.ErrRange, two, x)
		}
	}
	for i := range int64(7) {
		x, code := impl.ContextApart(a, i, i)
		expectError(t, told(i, i), impl.ErrNotFound, code, x)
	}
	// Some of the words are too long, but two elements are alike, or none.
	a = deepAlgebra(31)
	x, code := impl.ContextApart(a, 3, 3)
	expectError(t, "alike", impl.ErrNotFound, code, x)
	x, code = impl.ContextApart(a, 33, 3)
	expectError(t, "no element", impl.ErrRange, code, x)
	x, code = impl.ContextApart(a, 31, 3)
	expectError(t, "apart by empty words", impl.ErrLimit, code, x)
}

// siegeAlgebra has an element x, 1 behind the last one of words, from the product
// of which with that of a long word so many pairs of brackets lead to one the
// product of which with it again is taken. The long word stands behind it, or in
// front. It has "()" around nothing, or "a", in a depth.
func siegeAlgebra(depth, wraps int64, inFront, around bool) impl.Algebra {
	x := depth + 1
	end := x + wraps + 2
	a := bareAlgebra(end + 2)
	for e := range depth {
		a.Wrap[0][e] = e + 1
	}
	if around {
		a.Inner[0], a.Wrap[0][0] = 1, end+1
	}
	for e := x + 1; e <= x+wraps; e++ {
		a.Wrap[0][e] = e + 1
	}
	if inFront {
		a.Product[depth][x], a.Product[depth][x+wraps+1] = x+1, end
	} else {
		a.Product[x][depth], a.Product[x+wraps+1][depth] = x+1, end
	}
	a.Accept[end] = true
	return a
}

func TestLongestContexts(t *testing.T) {
	calls, returns := strings.Repeat("(", 14), strings.Repeat(")", 14)
	for _, known := range []struct {
		depth, wraps int64
		around       bool
		word         string
	}{{14, 3, false, calls + returns}, {14, 4, false, calls + returns}, {15, 1, true, calls + "a" + returns}, {15, 2, true, calls + "a" + returns}} {
		x := known.depth + 1
		a := siegeAlgebra(known.depth, known.wraps, false, known.around)
		inside := int(known.wraps)
		got, code := impl.ContextApart(a, x, 0)
		expect(t, "behind", told(impl.Context{Front: strings.Repeat("(", inside), Back: known.word + strings.Repeat(")", inside) + known.word}, 0), got, code)
		a = siegeAlgebra(known.depth, known.wraps, true, known.around)
		got, code = impl.ContextApart(a, 0, x)
		expect(t, "in front", told(impl.Context{Front: known.word + strings.Repeat("(", inside) + known.word, Back: strings.Repeat(")", inside)}, 0), got, code)
	}
	for _, inFront := range []bool{false, true} {
		for _, a := range []impl.Algebra{siegeAlgebra(14, 5, inFront, false), siegeAlgebra(14, 9, inFront, false)} {
			x, code := impl.ContextApart(a, 15, 0)
			expectError(t, "too long", impl.ErrLimit, code, x)
		}
		x, code := impl.ContextApart(siegeAlgebra(15, 3, inFront, true), 16, 0)
		expectError(t, "61 symbols", impl.ErrLimit, code, x)
	}
}

// TestContextsTellWordsApart looks at the first words of elements.
func TestContextsTellWordsApart(t *testing.T) {
	apart := 0
	for _, c := range classCheckers() {
		least, code := impl.LeastAlgebra(c)
		if code != impl.OK || len(least.Accept) > 12 {
			continue
		}
		words, _ := impl.FirstWords(least)
		for i := range words {
			for k := range words[:i] {
				x, code := impl.ContextApart(least, int64(i), int64(k))
				if code != impl.OK {
					t.Fatalf("%v: %d and %d have the code %d", least, i, k, code)
				}
				tells, code := impl.TellsApart(c, words[i], words[k], x)
				one, _ := impl.RowOf(c, words[i], []impl.Context{x})
				two, _ := impl.RowOf(c, words[k], []impl.Context{x})
				expect(t, told(words[i], words[k], x), told(true, 0, false), tells, code, slices.Equal(one, two))
				apart++
			}
		}
	}
	if apart < 100 {
		t.Errorf("%d pairs are told apart", apart)
	}
}

func TestTellsApart(t *testing.T) {
	l := lottery(139)
	words, matched, long := sampleWords(), matchedOnly(sampleWords()), randomWords(3)
	codes, apart := map[int64]int{}, 0
	for _, c := range sampleCheckers() {
		for n := range 40 {
			u, v := matched[l.below(int64(len(matched)))], matched[l.below(200)]
			x := impl.Context{Front: words[l.below(1555)], Back: words[l.below(1555)]}
			if n%9 == 0 {
				x.Front = long[l.below(int64(len(long)))]
			}
			tells, code := impl.TellsApart(c, u, v, x)
			codes[code]++
			if max(len(u), len(v))+len(x.Front)+len(x.Back) > impl.MaxWord {
				expectError(t, told(u, v, x), impl.ErrLimit, code, tells)
				continue
			}
			want := takesByPlaces(c, x.Front+u+x.Back) != takesByPlaces(c, x.Front+v+x.Back)
			expect(t, told(u, v, x), told(want, 0), tells, code)
			if want {
				apart++
			}
		}
	}
	if codes[impl.OK] < 1000 || codes[impl.ErrLimit] < 20 || apart < 100 {
		t.Errorf("the codes are %v, and %d are told apart", codes, apart)
	}
}

func TestTellsApartErrors(t *testing.T) {
	c, word := oddChecker(), strings.Repeat("a", impl.MaxWord)
	context := func(front, back string) impl.Context { return impl.Context{Front: front, Back: back} }
	for _, x := range noWords() {
		for _, known := range []struct {
			u, v    string
			context impl.Context
		}{{x, "", context("", "")}, {"", x, context(word, "")}, {"(", ")", context(x, "")}, {word, "(", context("", x)}, {x, x, context(x, x)}} {
			tells, code := impl.TellsApart(c, known.u, known.v, known.context)
			expectError(t, told(known), impl.ErrInvalid, code, tells)
		}
	}
	for _, known := range []struct {
		want        int64
		u, v, f, b  string
		tells       bool
		explanation string
	}{
		{impl.ErrState, "(", "", "", ")", false, "u is not matched"},
		{impl.ErrState, "a", ")", "(", "", false, "v is not matched"},
		{impl.ErrState, ")(", "()", word, word, false, "ahead of ErrLimit"},
		{impl.ErrLimit, word, "", "a", "", false, "u in 61 symbols"},
		{impl.ErrLimit, "", word, "", "a", false, "v in 61 symbols"},
		{impl.ErrLimit, "a", "a", word, word, false, "121 symbols"},
		{impl.ErrLimit, "", "a", word[:30], word[30:], false, "one is not too long"},
		{impl.OK, "", "a", word[:30], word[31:], true, "59 and 60 symbols"},
		{impl.OK, word[1:], word, "", "", true, "59 and 60 symbols"},
		{impl.OK, "aa", "", word[2:], "", false, "58 and 60 symbols"},
		{impl.OK, "", "a", "))([", "](", true, "any words around"},
		{impl.OK, "", "", "", "", false, "empty words"},
	} {
		tells, code := impl.TellsApart(c, known.u, known.v, context(known.f, known.b))
		expect(t, known.explanation, told(known.tells, known.want), tells, code)
	}
}

func TestRowOf(t *testing.T) {
	l := lottery(149)
	words, matched, long := sampleWords(), matchedOnly(sampleWords()), randomWords(3)
	codes := map[int64]int{}
	for i, c := range sampleCheckers() {
		for _, count := range []int64{0, 1, 3, impl.MaxContexts} {
			u := matched[l.below(int64(len(matched)))]
			var list []impl.Context
			var want []bool
			longest := 0
			for range count {
				x := impl.Context{Front: words[l.below(1555)], Back: words[l.below(1555)]}
				if i%3 == 0 && count < 4 {
					x.Back = long[l.below(int64(len(long)))]
				}
				list = append(list, x)
				longest = max(longest, len(x.Front+u+x.Back))
				want = append(want, takesByPlaces(c, x.Front+u+x.Back))
			}
			row, code := impl.RowOf(c, u, list)
			codes[code]++
			if longest > impl.MaxWord {
				expectError(t, told(u, list), impl.ErrLimit, code, row)
				continue
			}
			expect(t, told(u, list), told(want, 0), row, code)
		}
	}
	if codes[impl.OK] < 100 || codes[impl.ErrLimit] < 3 {
		t.Errorf("the codes are %v", codes)
	}
}

func TestRowOfErrors(t *testing.T) {
	c, word := oddChecker(), strings.Repeat("a", impl.MaxWord)
	empty := func(count int) []impl.Context { return make([]impl.Context, count) }
	with := func(x impl.Context) []impl.Context { return append(empty(impl.MaxContexts-1), x) }
	for _, x := range noWords() {
		row, one := impl.RowOf(c, x, append(empty(impl.MaxContexts), impl.Context{Front: x}))
		expectError(t, "u is no word", impl.ErrInvalid, one, row)
		row, two := impl.RowOf(c, word, append(with(impl.Context{Front: x, Back: "a"}), impl.Context{})[1:])
		expectError(t, "Front is no word", impl.ErrRange, two, row)
		row, three := impl.RowOf(c, "(", with(impl.Context{Front: word, Back: x}))
		expectError(t, "Back is no word", impl.ErrRange, three, row)
	}
	row, code := impl.RowOf(c, "(", empty(impl.MaxContexts+1))
	expectError(t, "too many contexts", impl.ErrRange, code, row)
	row, code = impl.RowOf(c, "", empty(100000))
	expectError(t, "too many contexts", impl.ErrRange, code, row)
	row, code = impl.RowOf(c, "(", with(impl.Context{Front: word, Back: ")"}))
	expectError(t, "not matched", impl.ErrState, code, row)
	row, code = impl.RowOf(c, ")", nil)
	expectError(t, "not matched", impl.ErrState, code, row)
	row, code = impl.RowOf(c, "a", with(impl.Context{Front: word}))
	expectError(t, "61 symbols", impl.ErrLimit, code, row)
	row, code = impl.RowOf(c, "()", append([]impl.Context{{Front: word[1:], Back: ""}}, empty(1)...))
	expectError(t, "61 symbols", impl.ErrLimit, code, row)
	row, code = impl.RowOf(c, "a", with(impl.Context{Front: word[1:]}))
	expect(t, "60 symbols", told(append(slices.Repeat([]bool{true}, impl.MaxContexts-1), false), 0), row, code)
	row, code = impl.RowOf(c, word, empty(impl.MaxContexts))
	expect(t, "60 symbols", told(make([]bool, impl.MaxContexts), 0), row, code)
	row, code = impl.RowOf(c, word, nil)
	expect(t, "no contexts", "[] 0", row, code)
}
