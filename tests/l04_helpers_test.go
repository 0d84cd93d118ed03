package tests

import (
	"math"
	"slices"
	"strings"
	"testing"

	"loop.example/g01145/impl"
)

// pairTexts has the pairs of brackets in the order of Wrap.
var pairTexts = []string{"()", "(]", "[)", "[]"}

func wrapped(pair int, body string) string { return pairTexts[pair][:1] + body + pairTexts[pair][1:] }

// meaning gives values, which are texts, to matched words.
type meaning struct {
	nothing string
	letters []string
	wrap    func(pair int, body string) string
	join    func(front, back string) string
}

func asText(numbers []int64) string {
	var text []byte
	for _, n := range numbers {
		text = append(text, byte(n))
	}
	return string(text)
}

// ofStates is the meaning that words have for a checker: where they lead from
// each state.
func ofStates(c impl.Checker) meaning {
	size := len(c.Accept)
	summary := func(next func(state int) int64) string {
		var list []int64
		for state := range size {
			list = append(list, next(state))
		}
		return asText(list)
	}
	return meaning{
		nothing: summary(func(state int) int64 { return int64(state) }),
		letters: []string{
			summary(func(state int) int64 { return c.Inner[state][0] }),
			summary(func(state int) int64 { return c.Inner[state][1] }),
		},
		wrap: func(pair int, body string) string {
			return summary(func(state int) int64 {
				push := c.Call[state][pair/2]
				return c.Return[body[push.To]][pair%2][push.Put]
			})
		},
		join: func(front, back string) string {
			return summary(func(state int) int64 { return int64(back[front[state]]) })
		},
	}
}

func ofElements(a impl.Algebra) meaning {
	text := func(e int64) string { return asText([]int64{e}) }
	return meaning{
		nothing: text(0),
		letters: []string{text(a.Inner[0]), text(a.Inner[1])},
		wrap:    func(pair int, body string) string { return text(a.Wrap[pair][body[0]]) },
		join:    func(front, back string) string { return text(a.Product[front[0]][back[0]]) },
	}
}

const between = "|"

// ofBoth is the meaning that has those of m and n next to each other.
func ofBoth(m, n meaning) meaning {
	return meaning{
		nothing: m.nothing + between + n.nothing,
		letters: []string{m.letters[0] + between + n.letters[0], m.letters[1] + between + n.letters[1]},
		wrap: func(pair int, body string) string {
			one, two, _ := strings.Cut(body, between)
			return m.wrap(pair, one) + between + n.wrap(pair, two)
		},
		join: func(front, back string) string {
			frontOne, frontTwo, _ := strings.Cut(front, between)
			backOne, backTwo, _ := strings.Cut(back, between)
			return m.join(frontOne, backOne) + between + n.join(frontTwo, backTwo)
		},
	}
}

// of returns the value of a matched word, from left to right.
func (m meaning) of(word string) string {
	value := m.nothing
	for _, piece := range piecesOf(word) {
		factor := m.letters[symbolKind(piece[0])]
		if end := len(piece) - 1; end > 0 {
			factor = m.wrap(2*symbolKind(piece[0])+symbolKind(piece[end]), m.of(piece[1:end]))
		}
		value = m.join(value, factor)
	}
	return value
}

// firstWords has the first words of values. Those of some values may be longer
// than words are.
type firstWords struct {
	words   map[string]string
	longer  map[string]bool
	changed bool
}

func (f *firstWords) add(value, word string, longer bool) {
	old, found := f.words[value]
	switch {
	case longer || len(word) > impl.MaxWord:
		if !found && !f.longer[value] {
			f.longer[value], f.changed = true, true
		}
	case !found || compareWords(word, old) < 0:
		f.words[value], f.changed = word, true
		delete(f.longer, value)
	}
}

func (f *firstWords) values() []string {
	var values []string
	for value := range f.words {
		values = append(values, value)
	}
	for value := range f.longer {
		values = append(values, value)
	}
	slices.Sort(values)
	return values
}

// firstWordsOf improves words as long as one of them changes. It returns the
// values in the order of their first words, and these; false if there are more
// than most, or one of the words is too long.
func firstWordsOf(m meaning, most int) ([]string, []string, bool) {
	f := &firstWords{words: map[string]string{m.nothing: ""}, longer: map[string]bool{}, changed: true}
	for f.changed {
		f.changed = false
		values := f.values()
		if len(values) > most {
			return nil, nil, false
		}
		for _, front := range values {
			for kind, letter := range m.letters {
				f.add(m.join(front, letter), f.words[front]+"ab"[kind:kind+1], f.longer[front])
			}
			for _, body := range values {
				for pair := range pairTexts {
					word := f.words[front] + wrapped(pair, f.words[body])
					f.add(m.join(front, m.wrap(pair, body)), word, f.longer[front] || f.longer[body])
				}
			}
		}
	}
	values := f.values()
	slices.SortFunc(values, func(a, b string) int { return compareWords(f.words[a], f.words[b]) })
	var words []string
	for _, value := range values {
		words = append(words, f.words[value])
	}
	return values, words, len(f.longer) == 0
}

// algebraOn returns the algebra that has these values as elements.
func algebraOn(m meaning, values []string, takes func(value string) bool) impl.Algebra {
	number := func(value string) int64 { return int64(slices.Index(values, value)) }
	a := impl.Algebra{Wrap: make([][]int64, 4), Inner: []int64{number(m.letters[0]), number(m.letters[1])}}
	for _, value := range values {
		a.Accept = append(a.Accept, takes(value))
		var row []int64
		for _, back := range values {
			row = append(row, number(m.join(value, back)))
		}
		a.Product = append(a.Product, row)
		for pair := range a.Wrap {
			a.Wrap[pair] = append(a.Wrap[pair], number(m.wrap(pair, value)))
		}
	}
	return a
}

// algebra returns an algebra with a product; what stands in the other tables is
// drawn from the elements below most.
func (l *lottery) algebra(size, most int64, product func(i, k int64) int64) impl.Algebra {
	a := impl.Algebra{Inner: l.list(2, most)}
	for range 4 {
		a.Wrap = append(a.Wrap, l.list(size, most))
	}
	for i := range size {
		a.Accept = append(a.Accept, l.below(3) == 0)
		var row []int64
		for k := range size {
			row = append(row, product(i, k))
		}
		a.Product = append(a.Product, row)
	}
	return a
}

// orZero makes 0 neutral.
func orZero(product func(i, k int64) int64) func(i, k int64) int64 {
	return func(i, k int64) int64 {
		if i == 0 || k == 0 {
			return i + k
		}
		return product(i, k)
	}
}

// products returns products of the elements up to last that do not depend on how
// they are put together, and with 0 as their neutral element.
func products(last int64) []func(i, k int64) int64 {
	list := []func(i, k int64) int64{
		func(i, k int64) int64 { return (i + k) % (last + 1) },
		func(i, k int64) int64 { return min(i+k, last) },
		func(i, k int64) int64 { return max(i, k) },
		orZero(func(i, k int64) int64 { return i }),
		orZero(func(i, k int64) int64 { return k }),
		orZero(func(i, k int64) int64 { return last }),
		orZero(func(i, k int64) int64 { return min(i, k) }),
	}
	if last%2 == 0 {
		list = append(list, orZero(func(i, k int64) int64 { return (i-1)/2*2 + (k-1)%2 + 1 }))
	}
	return list
}

// sampleAlgebras returns algebras of the least, the greatest and other sizes,
// many of them with elements that are alike or those of no word.
func sampleAlgebras() []impl.Algebra {
	l := lottery(97)
	var list []impl.Algebra
	for _, size := range []int64{1, 2, 3, 4, 5, 7, 12, impl.MaxClasses - 1, impl.MaxClasses} {
		for _, product := range products(size - 1) {
			for range min(size, 1+12/size) {
				list = append(list, l.algebra(size, size, product), l.algebra(size, (size+1)/2, product), l.algebra(size, (size+3)/4, product))
			}
		}
	}
	for range 30 {
		c := l.checker(2+l.below(2), 1+l.below(2))
		values, _, _ := firstWordsOf(ofStates(c), impl.MaxClasses)
		a := algebraOn(ofStates(c), values, func(value string) bool { return value[1] == 0 })
		b := l.algebra(int64(len(values)), int64(len(values)), func(i, k int64) int64 { return a.Product[i][k] })
		list = append(list, a, b, deepAlgebra(l.below(39)), shuffled(&l, b))
	}
	return append(list, withSeconds(&l, list[24:300])...)
}

// withSeconds returns algebras of pairs of elements, of which the second ones do
// not count.
func withSeconds(l *lottery, list []impl.Algebra) []impl.Algebra {
	var pairs []impl.Algebra
	for range 150 {
		a, b := list[l.below(int64(len(list)))], list[l.below(int64(len(list)))]
		m := ofBoth(ofElements(a), ofElements(b))
		if values, _, fits := firstWordsOf(m, impl.MaxClasses); fits {
			pairs = append(pairs, algebraOn(m, values, func(value string) bool { return a.Accept[value[0]] }))
		}
	}
	return pairs
}

// shuffled returns an algebra with its elements, but for 0, numbered anew.
func shuffled(l *lottery, a impl.Algebra) impl.Algebra {
	size := int64(len(a.Accept))
	places := l.list(size, 1<<20) // where an element stands in the new order
	places[0] = -1
	var order []int64
	for e := range size {
		order = append(order, e)
	}
	slices.SortStableFunc(order, func(i, k int64) int { return int(places[i] - places[k]) })
	number := func(e int64) int64 { return int64(slices.Index(order, e)) }
	b := impl.Algebra{Wrap: make([][]int64, 4), Inner: []int64{number(a.Inner[0]), number(a.Inner[1])}}
	for _, i := range order {
		b.Accept = append(b.Accept, a.Accept[i])
		var row []int64
		for _, k := range order {
			row = append(row, number(a.Product[i][k]))
		}
		b.Product = append(b.Product, row)
		for pair := range b.Wrap {
			b.Wrap[pair] = append(b.Wrap[pair], number(a.Wrap[pair][i]))
		}
	}
	return b
}

// bareAlgebra returns an algebra of which all tables have the last element, but
// where 0 is neutral.
func bareAlgebra(size int64) impl.Algebra {
	last := size - 1
	l := lottery(0)
	a := l.algebra(size, 1, orZero(func(i, k int64) int64 { return last }))
	a.Inner, a.Accept = []int64{last, last}, make([]bool, size)
	for pair := range a.Wrap {
		a.Wrap[pair] = slices.Repeat([]int64{last}, int(size))
	}
	return a
}

// deepAlgebra has, behind 0, an element for the words with each number of calls
// "(" and of as many returns ")", up to depth, and a last one for all others.
func deepAlgebra(depth int64) impl.Algebra {
	a := bareAlgebra(depth + 2)
	a.Accept[depth] = true
	for e := range depth {
		a.Wrap[0][e] = e + 1
	}
	return a
}

func copiedAlgebra(a impl.Algebra) impl.Algebra {
	a.Product, a.Wrap = copiedLists(a.Product), copiedLists(a.Wrap)
	a.Inner, a.Accept = slices.Clone(a.Inner), slices.Clone(a.Accept)
	return a
}

// elementsIn returns all numbers of an algebra that name elements.
func elementsIn(a *impl.Algebra) []*int64 {
	var list []*int64
	for _, lists := range [][][]int64{a.Product, a.Wrap, {a.Inner}} {
		for _, row := range lists {
			for i := range row {
				list = append(list, &row[i])
			}
		}
	}
	return list
}

// algebraLengthChanges returns functions that change the length of one list
// each, of an algebra with at least two elements.
func algebraLengthChanges() []func(a *impl.Algebra, by int) {
	changes := []func(a *impl.Algebra, by int){
		func(a *impl.Algebra, by int) { changeLength(&a.Accept, len(a.Accept)+by) },
		func(a *impl.Algebra, by int) { changeLength(&a.Inner, len(a.Inner)+by) },
		func(a *impl.Algebra, by int) { changeLength(&a.Product, len(a.Product)+by) },
		func(a *impl.Algebra, by int) { changeLength(&a.Wrap, len(a.Wrap)+by) },
	}
	for i := range 2 {
		changes = append(changes, func(a *impl.Algebra, by int) { changeLength(&a.Product[i], len(a.Product[i])+by) })
	}
	for pair := range 4 {
		changes = append(changes, func(a *impl.Algebra, by int) { changeLength(&a.Wrap[pair], len(a.Wrap[pair])+by) })
	}
	return changes
}

// brokenAlgebras returns algebras that are not valid, most for one reason alone.
func brokenAlgebras() []impl.Algebra {
	l := lottery(101)
	whole := l.algebra(3, 3, products(2)[0])
	var list []impl.Algebra
	broken := func(change func(a *impl.Algebra)) {
		a := copiedAlgebra(whole)
		change(&a)
		list = append(list, a)
	}
	for i := range elementsIn(&whole) {
		for _, element := range []int64{math.MinInt64, -1, 3, 4, 1 << 32, math.MaxInt64} {
			broken(func(a *impl.Algebra) { *elementsIn(a)[i] = element })
		}
	}
	for _, change := range algebraLengthChanges() {
		broken(func(a *impl.Algebra) { change(a, 1) })
		broken(func(a *impl.Algebra) { change(a, -1) })
		broken(func(a *impl.Algebra) { change(a, -2) })
	}
	for i := range 3 {
		for k := range 3 {
			broken(func(a *impl.Algebra) { a.Product[i][k] = (a.Product[i][k] + 1) % 3 })
			broken(func(a *impl.Algebra) { a.Product[i][k] = (a.Product[i][k] + 2) % 3 })
		}
	}
	none := l.algebra(1, 1, products(0)[0])
	none.Accept, none.Product, none.Wrap = nil, nil, make([][]int64, 4)
	list = append(list, impl.Algebra{}, none, impl.Algebra{Accept: []bool{true}}, withNeutral(2), withNeutral(1))
	for _, product := range products(impl.MaxClasses) {
		list = append(list, l.algebra(impl.MaxClasses+1, impl.MaxClasses+1, product))
	}
	// Neutral from one side alone, and uneven.
	for _, product := range []func(i, k int64) int64{
		func(i, k int64) int64 { return i },
		func(i, k int64) int64 { return k },
		orZero(func(i, k int64) int64 { return (i + 2*k) % 3 }),
		orZero(func(i, k int64) int64 { return max(0, i-k) }),
	} {
		list = append(list, l.algebra(3, 3, product))
	}
	return list
}

// withNeutral returns an algebra on three elements whose neutral element is not
// 0, but e.
func withNeutral(e int64) impl.Algebra {
	l := lottery(103)
	return l.algebra(3, 3, func(i, k int64) int64 { return (i + k + 3 - e) % 3 })
}

// classCheckers returns checkers with few and with many summaries.
func classCheckers() []impl.Checker {
	l := lottery(107)
	var list []impl.Checker
	for i := range int64(60) {
		list = append(list, l.checker(1+i%4, 1+i%3))
	}
	list = append(list, searchedCheckers()...)
	for _, modulus := range []int64{1, 2, 3, 6, impl.MaxStates} {
		for _, symbol := range []string{"(", "]", "a", "b"} {
			c, _ := impl.CountChecker(symbol, modulus)
			list = append(list, c)
		}
	}
	for most := range int64(10) {
		c, _ := impl.DepthChecker(most)
		list = append(list, c)
	}
	return list
}

// shortMatched returns all matched words of at most so many symbols, in order.
func shortMatched(most int64) []string {
	var words []string
	for length := range most + 1 {
		count, _ := impl.CountMatched(length)
		for k := range count {
			word, _ := impl.MatchedAt(length, k)
			words = append(words, word)
		}
	}
	return words
}

func expectAlgebra(t *testing.T, name string, want, a impl.Algebra, code int64) {
	t.Helper()
	if !impl.SameAlgebra(a, want) || told(a) != told(want) || code != impl.OK {
		t.Errorf("%s: got the code %d and %v, want %v", name, code, a, want)
	}
}
