package tests

import (
	"slices"
	"strings"
	"testing"

	"loop.example/g01145/impl"
)

// resultsOfQueries calls each function of the chapter that has queries as
// arguments, and returns all results.
func resultsOfQueries(q, r impl.Query, w string, i int64, path []int64) []any {
	text := impl.QueryText(q)
	read, one := impl.ReadQuery(text)
	other, two := impl.ReadQuery(text + w)
	answers, three := impl.AnswersOf(q, w)
	count, four := impl.CountAnswers(q, w)
	first, five := impl.AnswerPath(q, w, i)
	shows, six := impl.CheckPath(q, w, path)
	x, seven := impl.StartWatcher(q)
	memory, eight := impl.MemoryOf(q, w)
	c, nine := impl.QueryChecker(q)
	d, ten := impl.UnlikeChecker(q, r)
	word, eleven := impl.FirstWithAnswer(q)
	unlike, twelve := impl.FirstQueryUnlike(q, r)
	passes, last := impl.PassesTest(text, w)
	return []any{impl.ValidQuery(q), impl.SameQuery(q, r), text, read, one, other, two, answers, three, count, four, first, five, shows, six, x, seven,
		memory, eight, c, nine, d, ten, word, eleven, unlike, twelve, passes, last}
}

// resultsOfWatchers calls the other functions of the chapter.
func resultsOfWatchers(x, y impl.Watcher, text string) []any {
	next, answers, code := impl.WatchText(x, text)
	return []any{impl.ValidWatcher(x), impl.SameWatcher(x, y), next, answers, code}
}

func roomyQuery(q impl.Query) impl.Query {
	return impl.Query{Steps: roomy(q.Steps, impl.QueryStep{Deep: true, Test: "?"})}
}

// roomyWatcher returns a watcher with unused capacity behind all lists.
func roomyWatcher(x impl.Watcher) impl.Watcher {
	return impl.Watcher{Query: roomyQuery(x.Query), Seen: x.Seen, Now: roomyNumbers(x.Now), Stack: roomyLists(x.Stack)}
}

func TestFunctionsOfQueriesArePure(t *testing.T) {
	t.Parallel()
	l := lottery(233)
	list := slices.Concat(sampleQueries(), brokenQueries())
	words := append(deepWords()[100:250], "", "(a[b])", "([b)", "a", "c", strings.Repeat("a", impl.MaxWord+1))
	for _, q := range list {
		q, r := roomyQuery(q), roomyQuery(list[l.below(int64(len(list)))])
		w := words[l.below(int64(len(words)))]
		i, path := l.below(12)-1, roomyNumbers(l.list(l.below(4), 5))
		if answers, code := impl.AnswersOf(q, w); code == impl.OK && len(answers) > 0 {
			i = answers[len(answers)-1]
			path, _ = impl.AnswerPath(q, w, i)
		}
		before := withUnused(q, r, path)
		first, crossed := resultsOfQueries(q, r, w, i, path), resultsOfQueries(r, q, w, i, path)
		second := resultsOfQueries(copiedQuery(q), copiedQuery(r), strings.Clone(w), i, slices.Clone(path))
		if withUnused(q, r, path) != before {
			t.Fatalf("%v and %v: an argument is modified", q, r)
		}
		if told(first...) != told(second...) {
			t.Fatalf("%v and %v: equal arguments have other results", q, r)
		}
		checkApart(t, slices.Concat([]any{q, r, path}, first, crossed))
	}
}

func TestFunctionsOfWatchersArePure(t *testing.T) {
	t.Parallel()
	l := lottery(239)
	list := slices.Concat(sampleWatchers(), brokenWatchers())
	words := append(slices.Concat(deepWords()[:150], randomWords(1)), "", ")", "()", "c")
	for _, x := range list {
		x, y := roomyWatcher(x), roomyWatcher(list[l.below(int64(len(list)))])
		w := words[l.below(int64(len(words)))]
		before := withUnused(x, y)
		first, crossed, empty := resultsOfWatchers(x, y, w), resultsOfWatchers(y, x, w), resultsOfWatchers(x, y, "")
		second := resultsOfWatchers(copiedWatcher(x), copiedWatcher(y), strings.Clone(w))
		if withUnused(x, y) != before {
			t.Fatalf("%v and %v: an argument is modified", x, y)
		}
		if told(first...) != told(second...) {
			t.Fatalf("%v and %v: equal arguments have other results", x, y)
		}
		checkApart(t, slices.Concat([]any{x, y}, first, crossed, empty))
	}
}

// TestWatchersAreNotKept changes a watcher that has been given away.
func TestWatchersAreNotKept(t *testing.T) {
	q := query("//(//a")
	x, _ := impl.StartWatcher(q)
	q.Steps[0].Test = "["
	y, _, _ := impl.WatchText(x, "(([")
	x.Query.Steps[1].Test, x.Now[0] = "b", 1
	z, answers, code := impl.WatchText(y, "a)")
	y.Stack[0][0], y.Stack[1][0], y.Query.Steps[0].Deep = 5, 5, false
	expect(t, "the last one", told(query("//(//a"), []int64{3}, 5, []int64{0, 1}, [][]int64{{0}, {0, 1}}, 0), z.Query, answers, z.Seen, z.Now, z.Stack, code)
}

func TestLargeQueriesComeBack(t *testing.T) {
	const most = 1000000
	long := make([]int64, most)
	rising := slices.Clone(long)
	for i := range rising {
		rising[i] = int64(i)
	}
	text := strings.Repeat("*", most)
	for _, q := range []impl.Query{{Steps: make([]impl.QueryStep, most/2)}, {Steps: slices.Repeat([]impl.QueryStep{{Test: "*"}}, most/2)}, {Steps: []impl.QueryStep{{Test: text}}}, {Steps: []impl.QueryStep{{Test: "*"}, {Deep: true, Test: text}}}} {
		if impl.ValidQuery(q) || !impl.SameQuery(q, copiedQuery(q)) || impl.QueryText(q) != "" {
			t.Error("a large query is the same as its copy, and not valid")
		}
		expectInvalidQuery(t, q, "()")
	}
	lists := make([][]int64, most)
	for _, x := range []impl.Watcher{
		{Query: query("/a"), Now: long}, {Query: query("/a"), Now: rising}, {Query: query("/a"), Now: []int64{0}, Stack: lists}, {Query: query("/a"), Now: []int64{0}, Stack: [][]int64{{0}, rising}},
		{Query: query("/a"), Now: []int64{0}, Stack: [][]int64{long}}, {Query: impl.Query{Steps: make([]impl.QueryStep, most/2)}, Now: []int64{0}},
	} {
		if impl.ValidWatcher(x) || !impl.SameWatcher(x, copiedWatcher(x)) {
			t.Error("a large watcher is the same as its copy, and not valid")
		}
		y, answers, code := impl.WatchText(x, "a")
		expectError(t, "a large watcher", impl.ErrInvalid, code, y, answers)
	}
	for _, test := range []string{text, "*"} {
		passes, code := impl.PassesTest(test, text)
		expectError(t, "a large text", impl.ErrRange, code, passes)
	}
}
