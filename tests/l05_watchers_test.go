package tests

import (
	"slices"
	"strings"
	"testing"

	"loop.example/g01145/impl"
)

func TestStartWatcher(t *testing.T) {
	for _, q := range sampleQueries() {
		x, code := impl.StartWatcher(q)
		expectWatcher(t, textOfSteps(q), begun(q), x, code)
		expect(t, "is valid", "true", impl.ValidWatcher(x))
	}
}

func TestWatchersAreValid(t *testing.T) {
	for _, x := range sampleWatchers() {
		expect(t, told(x), "true true", impl.ValidWatcher(x), impl.ValidWatcher(copiedWatcher(x)))
	}
	for _, x := range brokenWatchers() {
		expect(t, told(x), "false", impl.ValidWatcher(x))
		for _, text := range []string{"", "a", "())", "c", strings.Repeat("(", impl.MaxWord)} {
			y, answers, code := impl.WatchText(x, text)
			expectError(t, told(x, text), impl.ErrInvalid, code, y, answers)
		}
	}
}

// TestNowOfAnEmptyStack looks at all lists that Now can be.
func TestNowOfAnEmptyStack(t *testing.T) {
	q := query("//(//[//a")
	for set := range 8 {
		var now []int64
		for step := range int64(3) {
			if set>>step&1 > 0 {
				now = append(now, step)
			}
		}
		outside := impl.Watcher{Query: q, Now: now}
		within := impl.Watcher{Query: q, Now: now, Stack: [][]int64{{0}}}
		further := impl.Watcher{Query: q, Now: []int64{0}, Stack: [][]int64{{0}, now}}
		lowest := impl.Watcher{Query: q, Now: []int64{0}, Stack: [][]int64{now, {0}}}
		expect(t, told(now), told(set == 1, true, true, set == 1), impl.ValidWatcher(outside), impl.ValidWatcher(within), impl.ValidWatcher(further), impl.ValidWatcher(lowest))
	}
}

func TestSameWatchers(t *testing.T) {
	list := append(sampleWatchers()[:150], brokenWatchers()...)
	var texts []string
	for _, x := range list {
		texts = append(texts, told(x))
		expect(t, told(x), "true", impl.SameWatcher(x, copiedWatcher(x)))
	}
	for i, x := range list {
		for k, y := range list {
			if impl.SameWatcher(x, y) != (texts[i] == texts[k]) {
				t.Fatalf("%v and %v", x, y)
			}
		}
	}
	x := impl.Watcher{Query: query("//(/a"), Seen: 3, Now: []int64{0, 1}, Stack: [][]int64{{0}, {}}}
	for i, change := range []func(y *impl.Watcher){
		func(y *impl.Watcher) { y.Query.Steps[1].Deep = true }, func(y *impl.Watcher) { y.Query.Steps[0].Test = "[" },
		func(y *impl.Watcher) { y.Query.Steps = y.Query.Steps[:1] }, func(y *impl.Watcher) { y.Seen++ },
		func(y *impl.Watcher) { y.Now = y.Now[:1] }, func(y *impl.Watcher) { y.Now[1] = 2 }, func(y *impl.Watcher) { y.Stack[1] = []int64{0} },
		func(y *impl.Watcher) { y.Stack = y.Stack[:1] }, func(y *impl.Watcher) { y.Stack = append(y.Stack, nil) }, func(y *impl.Watcher) { y.Stack[0][0] = 5 },
	} {
		y := copiedWatcher(x)
		change(&y)
		expect(t, told(i), "false false true", impl.SameWatcher(x, y), impl.SameWatcher(y, x), impl.SameWatcher(y, copiedWatcher(y)))
	}
	empty := impl.Watcher{Query: impl.Query{Steps: []impl.QueryStep{}}, Now: []int64{}, Stack: [][]int64{}}
	expect(t, "nil and empty", "true true", impl.SameWatcher(empty, impl.Watcher{}), impl.SameWatcher(impl.Watcher{}, empty))
}

func TestWatchedExamples(t *testing.T) {
	for _, known := range []struct{ query, text, want string }{
		{"//a", "(a[", "[1] 3 [0] [[0] [0]]"},
		{"/(/a", "(a", "[1] 2 [1] [[0]]"},
		{"/(/a", "(a)a(", "[1] 5 [1] [[0]]"},
		{"/(/a", "[a", "[] 2 [] [[0]]"},
		{"/(/a", "((", "[] 2 [] [[0] [1]]"},
		{"/(//a", "(([a", "[3] 4 [1] [[0] [1] [1]]"},
		{"//(//[/.", "([(a[b", "[5] 6 [0 1 2] [[0] [0 1] [0 1 2] [0 1]]"},
		{"//(/(", "(((", "[1 2] 3 [0 1] [[0] [0 1] [0 1]]"},
		{"/(", "(([)(", "[0] 5 [] [[0] [] []]"},
		{"//*", ")](]", "[2] 4 [0] []"},
		{"/a", "))a)a", "[2 4] 5 [0] []"},
		{"/*//*//*", "([(", "[2] 3 [1 2] [[0] [1] [1 2]]"},
		{"/.", "", "[] 0 [0] []"},
	} {
		x, _ := impl.StartWatcher(query(known.query))
		y, answers, code := impl.WatchText(x, known.text)
		expect(t, known.query+" in "+known.text, told(known.want, query(known.query), 0), answers, y.Seen, y.Now, y.Stack, y.Query, code)
	}
}

// deepest returns the greatest number of lists on the stack on the way.
func deepest(lists int, text string) int {
	most := lists
	for i := range len(text) {
		switch {
		case isCall(text[i]):
			lists++
		case isReturn(text[i]):
			lists = max(0, lists-1)
		}
		most = max(most, lists)
	}
	return most
}

func TestWatchText(t *testing.T) {
	texts := slices.Concat(deepWords(), randomWords(2), wordsOf(2), []string{"", "a", ")", "()))]", "))))a[a(("})
	codes := map[int64]int{}
	found := 0
	for number, x := range sampleWatchers() {
		for k := number % 11; k < len(texts); k += 11 {
			y, answers, code := impl.WatchText(x, texts[k])
			codes[code]++
			if deepest(len(x.Stack), texts[k]) > impl.MaxWord || x.Seen+int64(len(texts[k])) > impl.MaxSeenPlaces {
				expectError(t, told(x, texts[k]), impl.ErrLimit, code, y, answers)
				continue
			}
			want, places := afterText(x, texts[k])
			expectWatcher(t, told(x, texts[k]), want, y, code)
			if !slices.Equal(answers, places) || !impl.ValidWatcher(y) {
				t.Fatalf("%v and %q: got the answers %v, want %v", x, texts[k], answers, places)
			}
			found += len(answers)
		}
	}
	if codes[impl.OK] < 5000 || codes[impl.ErrLimit] < 500 || found < 20000 {
		t.Errorf("the codes are %v, and %d answers are found", codes, found)
	}
}

// watchedPieces returns what a watcher tells in pieces.
func watchedPieces(t *testing.T, q impl.Query, pieces []string) (impl.Watcher, []int64) {
	t.Helper()
	x, code := impl.StartWatcher(q)
	var all []int64
	for _, piece := range pieces {
		var answers []int64
		var again int64
		x, answers, again = impl.WatchText(x, piece)
		code = max(code, again)
		all = append(all, answers...)
	}
	expect(t, told("the codes of", pieces), "0", code)
	return x, all
}

func checkPieces(t *testing.T, q impl.Query, pieces []string, whole impl.Watcher, answers []int64) {
	t.Helper()
	x, all := watchedPieces(t, q, pieces)
	if !slices.Equal(all, answers) || !impl.SameWatcher(x, whole) {
		t.Fatalf("%s in %q: got %v and %v, want %v and %v", textOfSteps(q), pieces, all, x, answers, whole)
	}
}

// TestPiecesHaveTheAnswersOfTheWhole cuts words at every place.
func TestPiecesHaveTheAnswersOfTheWhole(t *testing.T) {
	l := lottery(223)
	queries := sampleQueries()
	for number, w := range queriedWords() {
		q := queries[number%len(queries)]
		answers, one := impl.AnswersOf(q, w)
		x, _ := impl.StartWatcher(q)
		whole, places, two := impl.WatchText(x, w)
		if !slices.Equal(places, answers) || !slices.Equal(answers, answersOn(q, w, linesOf(w))) || one != impl.OK || two != impl.OK {
			t.Fatalf("%s in %q: got %v and %v", textOfSteps(q), w, places, answers)
		}
		for cut := range len(w) + 1 {
			again := l.below(int64(len(w)-cut)+1) + int64(cut)
			checkPieces(t, q, []string{w[:cut], w[cut:]}, whole, answers)
			checkPieces(t, q, []string{w[:cut], "", w[cut:again], w[again:], ""}, whole, answers)
		}
		checkPieces(t, q, strings.Split(w, ""), whole, answers)
		checkPieces(t, q, append([]string{"", "", w}, "", ""), whole, answers)
	}
}

// TestLongStreams reads more than a word has.
func TestLongStreams(t *testing.T) {
	l := lottery(227)
	texts := slices.Concat(randomWords(3), wordsOf(1), wordsOf(2))
	for _, q := range sampleQueries() {
		x, _ := impl.StartWatcher(q)
		y := x
		for range 60 {
			text := texts[l.below(int64(len(texts)))]
			want, places := afterText(y, text)
			if deepest(len(y.Stack), text) > impl.MaxWord {
				continue
			}
			next, answers, code := impl.WatchText(x, text)
			expectWatcher(t, text, want, next, code)
			if !slices.Equal(answers, places) {
				t.Fatalf("%v and %q: got %v, want %v", x, text, answers, places)
			}
			x, y = next, want
		}
		if x.Seen < 500 {
			t.Errorf("%d symbols are seen", x.Seen)
		}
	}
}

func TestWatchersHaveAtMostMaxWordLists(t *testing.T) {
	q := query("//(//[")
	for lists := range impl.MaxWord + 1 {
		x := begun(q)
		for range lists {
			x, _ = afterSymbol(x, '(')
		}
		x.Seen = 5
		room := impl.MaxWord - lists
		for _, call := range []string{"(", "["} {
			want, _ := afterText(x, strings.Repeat(call, room))
			full, answers, code := impl.WatchText(x, strings.Repeat(call, room))
			expectWatcher(t, told("filled", lists), want, full, code)
			expect(t, "lists", told(impl.MaxWord, call == "[" && lists > 0 && room > 0), len(full.Stack), len(answers) > 0)
			for _, text := range []string{call, "a" + call, call + ")", call + "]]]", call + call, call + ")" + call + "a", ")" + call + call, ")))" + strings.Repeat(call, 4) + "]]"} {
				y, answers, code := impl.WatchText(full, text)
				expectError(t, told("too full", text), impl.ErrLimit, code, y, answers)
			}
			for _, text := range []string{"", "a", "]" + call, ")" + call + "]a" + call, "))" + call + call} {
				want, _ := afterText(full, text)
				y, _, code := impl.WatchText(full, text)
				expectWatcher(t, "just full", want, y, code)
			}
		}
		if room < impl.MaxWord {
			y, answers, code := impl.WatchText(x, strings.Repeat("(", room+1))
			expectError(t, "one more", impl.ErrLimit, code, y, answers)
		}
	}
}

func TestWatchersSeeAtMostMaxSeenPlaces(t *testing.T) {
	for length := range int64(impl.MaxWord + 1) {
		text := strings.Repeat("a", int(length))
		x := begun(query("/a"))
		x.Seen = impl.MaxSeenPlaces - length
		y, answers, code := impl.WatchText(x, text)
		expect(t, "just enough", told(0, impl.MaxSeenPlaces, length, true), code, y.Seen, len(answers), impl.ValidWatcher(y))
		if length > 0 {
			expect(t, "places", told(x.Seen, impl.MaxSeenPlaces-1), answers[0], answers[length-1])
			x.Seen++
			y, answers, code = impl.WatchText(x, text)
			expectError(t, "one more", impl.ErrLimit, code, y, answers)
		}
	}
	x := begun(query("/a"))
	x.Seen = impl.MaxSeenPlaces
	for _, text := range []string{"a", "b", "(", ")", "()", strings.Repeat("]", impl.MaxWord)} {
		y, answers, code := impl.WatchText(x, text)
		expectError(t, text, impl.ErrLimit, code, y, answers)
	}
}

// TestWatchTextErrors checks that texts that are no words come ahead of limits.
func TestWatchTextErrors(t *testing.T) {
	last := begun(query("/a"))
	last.Seen = impl.MaxSeenPlaces
	full, _ := afterText(begun(query("//(")), strings.Repeat("(", impl.MaxWord))
	for _, x := range []impl.Watcher{begun(query("//a")), last, full} {
		for _, text := range noWords() {
			y, answers, code := impl.WatchText(x, text)
			expectError(t, "no word", impl.ErrInvalid, code, y, answers)
		}
		x.Seen = impl.MaxSeenPlaces + 1
		y, answers, code := impl.WatchText(x, "(")
		expectError(t, "no watcher", impl.ErrInvalid, code, y, answers)
	}
}

func TestMemoryIsTheDepth(t *testing.T) {
	queries := sampleQueries()
	for number, w := range queriedWords() {
		q := queries[number%len(queries)]
		x, most := begun(q), 0
		for i := range len(w) {
			x, _ = afterSymbol(x, w[i])
			most = max(most, len(x.Stack))
		}
		memory, one := impl.MemoryOf(q, w)
		depth, two := impl.DepthOf(w)
		expect(t, w, told(most, 0, most, 0), memory, one, depth, two)
	}
	for w, want := range map[string]int{"": 0, "a": 0, ")": 0, "(": 1, "(a[b]": 2, "()()": 1, ")))((": 2, "(()[])": 2, strings.Repeat("[", impl.MaxWord): impl.MaxWord} {
		memory, code := impl.MemoryOf(query("/a"), w)
		expect(t, w, told(want, 0), memory, code)
	}
}
