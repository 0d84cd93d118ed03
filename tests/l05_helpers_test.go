package tests

import (
	"math"
	"slices"
	"strings"
	"testing"

	"loop.example/g01145/impl"
)

// testNames has all tests of steps.
const testNames = "([ab*."

// passing returns the symbols that pass a test.
func passing(test string) string {
	switch test {
	case "*":
		return "(["
	case ".":
		return "ab"
	}
	return test
}

func passesNode(test string, node byte) bool { return strings.IndexByte(passing(test), node) >= 0 }

// query returns the query with a text, which has to be that of one.
func query(text string) impl.Query {
	var q impl.Query
	for text != "" {
		test := strings.IndexAny(text, testNames)
		q.Steps = append(q.Steps, impl.QueryStep{Deep: test == 2, Test: text[test : test+1]})
		text = text[test+1:]
	}
	return q
}

// queryOf returns the query with some tests, one for each step; those with a
// bit in deep are deep.
func queryOf(tests string, deep int) impl.Query {
	var q impl.Query
	for i := range len(tests) {
		q.Steps = append(q.Steps, impl.QueryStep{Deep: deep>>i&1 > 0, Test: tests[i : i+1]})
	}
	return q
}

func textOfSteps(q impl.Query) string {
	var text strings.Builder
	for _, step := range q.Steps {
		text.WriteString(map[bool]string{false: "/", true: "//"}[step.Deep] + step.Test)
	}
	return text.String()
}

func copiedQuery(q impl.Query) impl.Query { return impl.Query{Steps: slices.Clone(q.Steps)} }

// query draws a query of so many steps, most of which can be passed by a call.
func (l *lottery) query(steps int64) impl.Query {
	tests := ""
	for i := range steps {
		choice := "((([[***ab."
		if i == steps-1 {
			choice = "([ab*."
		}
		tests += string(choice[l.below(int64(len(choice)))])
	}
	return queryOf(tests, int(l.below(1<<steps)))
}

// allQueries returns all queries with so many steps.
func allQueries(steps int) []impl.Query {
	tests := []string{""}
	for range steps {
		var longer []string
		for _, list := range tests {
			for _, test := range strings.Split(testNames, "") {
				longer = append(longer, list+test)
			}
		}
		tests = longer
	}
	var list []impl.Query
	for _, some := range tests {
		for deep := range 1 << steps {
			list = append(list, queryOf(some, deep))
		}
	}
	return list
}

// sampleQueries returns all queries with one step, all those of calls with two,
// and some of each length.
func sampleQueries() []impl.Query {
	l := lottery(191)
	list := allQueries(1)
	for _, q := range allQueries(2) {
		if strings.Contains("([*", q.Steps[0].Test) {
			list = append(list, q)
		}
	}
	for steps := int64(2); steps <= impl.MaxQuery; steps++ {
		for range 12 {
			list = append(list, l.query(steps))
		}
	}
	for _, text := range []string{
		"/(//a", "//[//.", "/(//(", "//*//*//*//*//*//*", "/*/*/*/*/*/*", "//(/*/*/*/*/a", "//*/*/*/*/*/.", "/*//*//*//*//*//.",
		"//(//(//(//(//(/a", "/(/[/(/[/(/[", "//(/[//(/[//(/[", "/a/b", "//.//*", "//*/.//a", "//(/(/(/(/(/(", "//(/(/(/[", "/*//*/*//*/*//*",
	} {
		list = append(list, query(text))
	}
	return list
}

// brokenQueries returns queries that are not valid.
func brokenQueries() []impl.Query {
	list := []impl.Query{{}, {Steps: []impl.QueryStep{}}, queryOf("*******", 0), queryOf("(((((((", 127), queryOf(strings.Repeat("*", 1000), 1)}
	for _, test := range []string{"", ")", "]", "c", "A", "/", "//", "**", "..", "((", "()", "(a", " ", "(\n", "\x00", "é", "（", "-", "*.", "([ab*.", "ab"} {
		for _, deep := range []bool{false, true} {
			for steps := range impl.MaxQuery {
				whole := queryOf("(((*a"[:steps], 5)
				whole.Steps = slices.Insert(whole.Steps, steps/2, impl.QueryStep{Deep: deep, Test: test})
				list = append(list, whole)
			}
		}
	}
	return list
}

// deepWords returns words of all lengths that have more calls than returns.
func deepWords() []string {
	l := lottery(197)
	var words []string
	for length := range impl.MaxWord + 1 {
		for _, choice := range []string{"([", "((((([ab])", "(([[ab)", "([a", "()[]ab(["} {
			var word strings.Builder
			for range length {
				word.WriteByte(choice[l.below(int64(len(choice)))])
			}
			words = append(words, word.String())
		}
	}
	return append(words, strings.Repeat("(", impl.MaxWord), strings.Repeat("[", impl.MaxWord-1)+"b",
		strings.Repeat("([", 15)+"a"+strings.Repeat(")]", 14)+"a", strings.Repeat(")", 30)+strings.Repeat("[(", 14)+"ba")
}

// queriedWords returns all short words, and long ones of all sorts.
func queriedWords() []string {
	words := slices.Concat(randomWords(1), deepWords())
	for length := range 5 {
		words = append(words, wordsOf(length)...)
	}
	return append(words, "(a[a(b)])a", "(a)[b]", "((a)b(b))", ")(a", ")]b[a", "(a))a", "([)a]b", "[[[]]](((", "a)b]a(b", "((((((a))))))", "([([([([([a")
}

// linesOf returns, for each place of a word, -1, and behind it the calls around
// the place, from the outermost one on, and the place itself.
func linesOf(w string) [][]int64 {
	lines := make([][]int64, len(w))
	for i, parent := range parentsByPartners(w) {
		lines[i] = []int64{-1}
		if parent >= 0 {
			lines[i] = slices.Clone(lines[parent])
		}
		lines[i] = append(lines[i], int64(i))
	}
	return lines
}

// nextOn returns the indexes on a line that a path can have for a step, if it has
// the index from for the one before it.
func nextOn(q impl.Query, w string, line []int64, step, from int) []int {
	var list []int
	for k := from + 1; k < len(line) && (k == from+1 || q.Steps[step].Deep); k++ {
		if passesNode(q.Steps[step].Test, w[line[k]]) {
			list = append(list, k)
		}
	}
	return list
}

// pathsOn returns all lists of nodes, in order, that show that the last place of
// a line is an answer.
func pathsOn(q impl.Query, w string, line []int64) [][]int64 {
	var paths [][]int64
	var extend func(path []int64, from int)
	extend = func(path []int64, from int) {
		if len(path) == len(q.Steps) {
			if from == len(line)-1 {
				paths = append(paths, slices.Clone(path))
			}
			return
		}
		for _, k := range nextOn(q, w, line, len(path), from) {
			extend(append(path, line[k]), k)
		}
	}
	extend(nil, 0)
	return paths
}

// firstPathOn returns the first one of these lists; it keeps in mind from where
// there is none.
func firstPathOn(q impl.Query, w string, line []int64) ([]int64, bool) {
	none := map[[2]int]bool{}
	var extend func(path []int64, from int) ([]int64, bool)
	extend = func(path []int64, from int) ([]int64, bool) {
		step := len(path)
		if step == len(q.Steps) || none[[2]int{step, from}] {
			return path, step == len(q.Steps) && from == len(line)-1
		}
		for _, k := range nextOn(q, w, line, step, from) {
			if whole, found := extend(append(path, line[k]), k); found {
				return whole, true
			}
		}
		none[[2]int{step, from}] = true
		return nil, false
	}
	return extend(nil, 0)
}

// answersOn returns the places that have paths.
func answersOn(q impl.Query, w string, lines [][]int64) []int64 {
	var answers []int64
	for i, line := range lines {
		if _, found := firstPathOn(q, w, line); found {
			answers = append(answers, int64(i))
		}
	}
	return answers
}

// afterSymbol returns the watcher behind a symbol, and whether it is an answer.
func afterSymbol(x impl.Watcher, s byte) (impl.Watcher, bool) {
	last := int64(len(x.Query.Steps) - 1)
	y := impl.Watcher{Query: x.Query, Seen: x.Seen + 1, Now: slices.Clone(x.Now), Stack: copiedLists(x.Stack)}
	top := len(y.Stack) - 1
	switch {
	case isReturn(s) && top >= 0:
		y.Now, y.Stack = y.Stack[top], y.Stack[:top]
	case isCall(s):
		y.Stack = append(y.Stack, y.Now)
		y.Now = nil
		for _, step := range x.Now {
			if step < last && passesNode(x.Query.Steps[step].Test, s) {
				y.Now = append(y.Now, step+1)
			}
			if x.Query.Steps[step].Deep {
				y.Now = append(y.Now, step)
			}
		}
		y.Now = sortedSet(y.Now)
	}
	return y, slices.Contains(x.Now, last) && passesNode(x.Query.Steps[last].Test, s)
}

// afterText reads symbol by symbol.
func afterText(x impl.Watcher, text string) (impl.Watcher, []int64) {
	var answers []int64
	for i := range len(text) {
		y, answer := afterSymbol(x, text[i])
		if answer {
			answers = append(answers, x.Seen)
		}
		x = y
	}
	return x, answers
}

func copiedWatcher(x impl.Watcher) impl.Watcher {
	return impl.Watcher{Query: copiedQuery(x.Query), Seen: x.Seen, Now: slices.Clone(x.Now), Stack: copiedLists(x.Stack)}
}

// begun returns the watcher that has read nothing.
func begun(q impl.Query) impl.Watcher { return impl.Watcher{Query: q, Now: []int64{0}} }

// watcher draws a watcher with so many lists on its stack.
func (l *lottery) watcher(q impl.Query, lists int64) impl.Watcher {
	steps := int64(len(q.Steps))
	x := begun(q)
	x.Seen = l.below(1000)
	for range lists {
		x.Stack = append(x.Stack, x.Now)
		x.Now = l.some(steps, 1+l.below(9))
	}
	return x
}

// sampleWatchers returns watchers with stacks of all heights, also with lists
// that no word leads to.
func sampleWatchers() []impl.Watcher {
	l := lottery(193)
	var list []impl.Watcher
	for i, q := range sampleQueries() {
		list = append(list, begun(q), l.watcher(q, int64(i)%5), l.watcher(q, int64(i)%(impl.MaxWord+1)))
	}
	for lists := range int64(impl.MaxWord + 1) {
		list = append(list, l.watcher(l.query(1+lists%impl.MaxQuery), lists))
	}
	for _, seen := range []int64{impl.MaxSeenPlaces, impl.MaxSeenPlaces - 1, impl.MaxSeenPlaces - 5, impl.MaxSeenPlaces - impl.MaxWord} {
		x := l.watcher(query("//(//a"), 3)
		x.Seen = seen
		list = append(list, x)
	}
	return list
}

// brokenWatchers returns watchers that are not valid, each for one reason alone.
func brokenWatchers() []impl.Watcher {
	whole := impl.Watcher{Query: query("//(/[/a"), Seen: 7, Now: []int64{0, 1}, Stack: [][]int64{{0}, {0, 2}, {}}}
	var list []impl.Watcher
	broken := func(change func(x *impl.Watcher)) {
		x := copiedWatcher(whole)
		change(&x)
		list = append(list, x)
	}
	for _, q := range brokenQueries() {
		if len(q.Steps) > 2 {
			broken(func(x *impl.Watcher) { x.Query = q })
		}
		list = append(list, begun(q))
	}
	for _, seen := range []int64{math.MinInt64, -1, impl.MaxSeenPlaces + 1, math.MaxInt64} {
		broken(func(x *impl.Watcher) { x.Seen = seen })
	}
	for _, steps := range [][]int64{{-1}, {3}, {6}, {math.MaxInt64}, {math.MinInt64}, {1 << 32}, {64}, {-1, 0}, {0, 0}, {1, 0}, {0, 1, 1}, {0, 2, 1}, {0, 1, 2, 3}, {0, 1, 2, 2}, {2, 0}} {
		broken(func(x *impl.Watcher) { x.Now = steps })
		broken(func(x *impl.Watcher) { x.Stack[1] = steps })
		broken(func(x *impl.Watcher) { x.Stack[2] = steps })
		broken(func(x *impl.Watcher) { x.Stack[0] = steps })
		broken(func(x *impl.Watcher) { x.Now, x.Stack = steps, nil })
	}
	for _, steps := range [][]int64{{}, {1}, {2}, {0, 1}, {0, 2}, {0, 1, 2}, {1, 2}} {
		broken(func(x *impl.Watcher) { x.Stack[0] = steps })
		broken(func(x *impl.Watcher) { x.Now, x.Stack = steps, nil })
		broken(func(x *impl.Watcher) { x.Now, x.Stack = []int64{0}, [][]int64{steps} })
		broken(func(x *impl.Watcher) { x.Stack = slices.Insert(x.Stack, 0, steps) })
	}
	for _, lists := range []int{impl.MaxWord + 1, impl.MaxWord + 2, 1000} {
		broken(func(x *impl.Watcher) { x.Stack = slices.Repeat([][]int64{{0}}, lists) })
	}
	return append(list, impl.Watcher{}, impl.Watcher{Query: query("/a")}, impl.Watcher{Now: []int64{0}})
}

// sights has, for queries, what their watchers know: Now of each one.
type sights [][]int64

// sighted returns what becomes of sights at a node, and at how many of the
// watchers it is an answer.
func sighted(queries []impl.Query, now sights, node byte) (sights, int) {
	var next sights
	answers := 0
	for i, q := range queries {
		x := begun(q)
		x.Now = now[i]
		y, answer := afterSymbol(x, node)
		if answer {
			answers++
		}
		next = append(next, y.Now)
	}
	return next, answers
}

// sightsOf returns what is met as long as nothing is an answer of one query
// alone, the first of all queries.
func sightsOf(queries []impl.Query) []sights {
	met := []sights{make(sights, len(queries))}
	for i := range queries {
		met[0][i] = []int64{0}
	}
	for k := 0; k < len(met); k++ {
		for _, call := range []byte("([") {
			next, answers := sighted(queries, met[k], call)
			known := slices.ContainsFunc(met, func(s sights) bool { return sameLists(s, next) })
			if answers != 1 && !known {
				met = append(met, next)
			}
		}
	}
	return met
}

// checkerBySights returns what QueryChecker of one query, or UnlikeChecker of two,
// should return, whatever the number of states.
func checkerBySights(queries []impl.Query) impl.Checker {
	met := sightsOf(queries)
	last := int64(len(met))
	c := evenChecker(last+1, last+1, last, last)
	c.Start = 0
	c.Accept[last] = true
	for state, now := range met {
		goTo := func(node byte) int64 {
			next, answers := sighted(queries, now, node)
			if answers == 1 {
				return last
			}
			return int64(slices.IndexFunc(met, func(s sights) bool { return sameLists(s, next) }))
		}
		for kind := range 2 {
			c.Call[state][kind] = impl.Push{To: goTo("(["[kind]), Put: int64(state)}
			c.Inner[state][kind] = goTo("ab"[kind])
			c.Return[state][kind] = nil
			for mark := range last + 1 {
				c.Return[state][kind] = append(c.Return[state][kind], mark)
			}
			c.Return[state][kind] = append(c.Return[state][kind], int64(state))
		}
	}
	return c
}

func expectQuery(t *testing.T, name string, want, q impl.Query, code int64) {
	t.Helper()
	if !impl.SameQuery(q, want) || told(q) != told(want) || code != impl.OK {
		t.Errorf("%s: got the code %d and %v, want %v", name, code, q, want)
	}
}

func expectWatcher(t *testing.T, name string, want, x impl.Watcher, code int64) {
	t.Helper()
	if !impl.SameWatcher(x, want) || told(x) != told(want) || code != impl.OK {
		t.Fatalf("%s: got the code %d and %v, want %v", name, code, x, want)
	}
}
