package tests

import (
	"reflect"
	"slices"
	"strings"
	"testing"

	"loop.example/g01145/impl"
)

// resultsOfCheckers calls each function of the chapter that has checkers as
// arguments, and returns all results.
func resultsOfCheckers(c, d impl.Checker, w string, state int64, stack []int64) []any {
	states, last, one := impl.RunOf(c, w)
	takes, two := impl.Takes(c, w)
	stacks, three := impl.StacksOf(c, w)
	summary, four := impl.SummaryOf(c, w)
	to, left, five := impl.GoOn(c, state, stack, w)
	opposite, six := impl.OppositeChecker(c)
	both, seven := impl.BothCheckers(c, d)
	either, eight := impl.EitherCheckers(c, d)
	used, nine := impl.UsedStates(c)
	trimmed, ten := impl.TrimChecker(c)
	text := impl.CheckerText(c)
	read, eleven := impl.ReadChecker(text + w)
	again, twelve := impl.ReadChecker(text)
	return []any{impl.ValidChecker(c), impl.SameChecker(c, d), states, last, one, takes, two, stacks, three, summary, four, to, left, five,
		opposite, six, both, seven, either, eight, used, nine, trimmed, ten, text, read, eleven, again, twelve}
}

// resultsOfNumbers calls the other functions of the chapter.
func resultsOfNumbers(symbol string, n int64) []any {
	deep, one := impl.DepthChecker(n)
	count, two := impl.CountChecker(symbol, n)
	read, three := impl.ReadChecker(symbol)
	return []any{impl.MatchedChecker(), impl.KindsChecker(), deep, one, count, two, read, three}
}

// roomy returns a list with unused capacity behind it that has the filler.
func roomy[T any](list []T, filler T) []T {
	whole := append(slices.Clone(list), filler, filler, filler)
	return whole[:len(list)]
}

func roomyNumbers(list []int64) []int64 { return roomy(list, -77) }

func roomyChecker(c impl.Checker) impl.Checker {
	c = copied(c)
	for state, pushes := range c.Call {
		c.Call[state] = roomy(pushes, impl.Push{To: -77, Put: -77})
	}
	for state, lists := range c.Return {
		for kind, list := range lists {
			lists[kind] = roomyNumbers(list)
		}
		c.Return[state] = roomy(lists, nil)
	}
	for state, list := range c.Inner {
		c.Inner[state] = roomyNumbers(list)
	}
	c.Accept = roomy(c.Accept, true)
	c.Call, c.Return, c.Inner = roomy(c.Call, nil), roomy(c.Return, nil), roomy(c.Inner, nil)
	return c
}

// slicesIn returns all slices within a value, with their unused capacity.
func slicesIn(v reflect.Value) []reflect.Value {
	var list []reflect.Value
	switch v.Kind() {
	case reflect.Interface:
		return slicesIn(v.Elem())
	case reflect.Struct:
		for i := range v.NumField() {
			list = append(list, slicesIn(v.Field(i))...)
		}
	case reflect.Slice:
		whole := v.Slice(0, v.Cap())
		list = append(list, whole)
		for i := range whole.Len() {
			list = append(list, slicesIn(whole.Index(i))...)
		}
	}
	return list
}

// withUnused writes a value with the unused capacity of all its slices.
func withUnused(values ...any) string {
	var text strings.Builder
	for _, list := range slicesIn(reflect.ValueOf(values)) {
		text.WriteString(told(list.Interface()))
	}
	return text.String()
}

// checkApart checks that no two slices within the values share memory.
func checkApart(t *testing.T, values []any) {
	t.Helper()
	type span struct{ begin, end uintptr }
	var spans []span
	for _, value := range values {
		for _, list := range slicesIn(reflect.ValueOf(value)) {
			size := uintptr(list.Cap()) * list.Type().Elem().Size()
			if size > 0 {
				spans = append(spans, span{list.Pointer(), list.Pointer() + size})
			}
		}
	}
	slices.SortFunc(spans, func(a, b span) int {
		if a.begin < b.begin {
			return -1
		}
		return 1
	})
	for i := 1; i < len(spans); i++ {
		if spans[i].begin < spans[i-1].end {
			t.Fatal("two slices share memory")
		}
	}
}

func TestFunctionsOfCheckersArePure(t *testing.T) {
	t.Parallel()
	l := lottery(31)
	list := append(sampleCheckers(), brokenCheckers()...)
	words := append(randomWords(1)[:40], "(a[b])", "([b)", "c", strings.Repeat("a", impl.MaxWord+1))
	for i, c := range list {
		c, d := roomyChecker(c), roomyChecker(smallCheckers()[i%8])
		for range 4 {
			w := words[l.below(int64(len(words)))]
			state, stack := l.below(3), roomyNumbers(l.list(l.below(5), 2))
			before := withUnused(c, d, stack)
			first := resultsOfCheckers(c, d, w, state, stack)
			crossed := resultsOfCheckers(d, c, w, state, stack)
			second := resultsOfCheckers(copied(c), copied(d), strings.Clone(w), state, slices.Clone(stack))
			if withUnused(c, d, stack) != before {
				t.Fatalf("%q: an argument is modified", w)
			}
			if told(first...) != told(second...) {
				t.Fatalf("%q: equal arguments have other results", w)
			}
			checkApart(t, slices.Concat([]any{c, d, stack}, first, crossed))
		}
	}
}

func TestFunctionsWithoutCheckersArePure(t *testing.T) {
	for _, symbol := range append(strings.Split(symbols, ""), "", "c", smallestText, impl.CheckerText(impl.KindsChecker())) {
		for _, n := range farNumbers() {
			first, second := resultsOfNumbers(symbol, n), resultsOfNumbers(strings.Clone(symbol), n)
			if told(first...) != told(second...) {
				t.Errorf("%q and %d: equal arguments have other results", symbol, n)
			}
			checkApart(t, append(first, second...))
		}
	}
}

func TestLargeArgumentsComeBack(t *testing.T) {
	const most = 1000000
	c, long := impl.MatchedChecker(), make([]int64, most)
	for _, large := range []impl.Checker{
		{Stack: 1, Accept: make([]bool, most)}, {Stack: 1, Call: make([][]impl.Push, most)},
		{Stack: most, Accept: []bool{true}, Call: [][]impl.Push{{{}, {}}}, Return: [][][]int64{{long[:most/2], long[most/2:]}}, Inner: [][]int64{{0, 0}}},
		{Stack: 80, Accept: []bool{true}, Call: [][]impl.Push{make([]impl.Push, most)}, Return: make([][][]int64, 1), Inner: [][]int64{long}},
		{Stack: most / 4, Accept: make([]bool, most/4), Call: make([][]impl.Push, most/4), Return: make([][][]int64, most/4), Inner: make([][]int64, most/4)},
	} {
		for _, results := range [][]any{resultsOfCheckers(large, c, "()", 0, nil), resultsOfCheckers(c, large, "()", 0, nil)} {
			expect(t, "a large argument", "false", results[1])
		}
		if impl.ValidChecker(large) || !impl.SameChecker(large, copied(large)) {
			t.Error("a large checker is the same as its copy, and not valid")
		}
	}
	state, stack, code := impl.GoOn(c, 0, long, "")
	expectError(t, "a large stack", impl.ErrRange, code, state, stack)
	for _, text := range []string{strings.Repeat(" ", most), strings.Repeat("\n", most), strings.Repeat("9", most), "checker " + strings.Repeat("1 ", most/2-4)} {
		read, code := impl.ReadChecker(text)
		expectError(t, "a large text", impl.ErrRange, code, read)
		read, code = impl.ReadChecker(text[:impl.MaxText])
		expectError(t, "a text that is not too large", impl.ErrSyntax, code, read)
	}
}
