package tests

import (
	"slices"
	"strings"
	"testing"

	"loop.example/g01145/impl"
)

func TestAnswersOfTheExample(t *testing.T) {
	w := "(a[a(b)])a"
	for text, want := range map[string]string{
		"/(/a": "[1]", "//a": "[1 3 9]", "/(//(": "[4]", "//[//.": "[3 5]", "/(": "[0]", "/a": "[9]", "//(": "[0 4]", "//[": "[2]", "/*": "[0]",
		"//*": "[0 2 4]", "//.": "[1 3 5 9]", "/b": "[]", "//b": "[5]", "/(/(": "[]", "/*/*": "[2]", "/*/*/*": "[4]", "/*//*/*": "[4]", "/[": "[]",
		"//*//b": "[5]", "//[/b": "[]", "//(/b": "[5]", "/(//a": "[1 3]", "/(/[/(/b": "[5]", "/(/[/(/b/a": "[]", "//a/a": "[]", "//a//b": "[]", "//.//.": "[]",
	} {
		answers, code := impl.AnswersOf(query(text), w)
		count, again := impl.CountAnswers(query(text), w)
		expect(t, text, told(want, 0, len(strings.Fields(strings.Trim(want, "[]"))), 0), answers, code, count, again)
	}
	path, one := impl.AnswerPath(query("/(//("), w, 4)
	second, two := impl.AnswerPath(query("//[//."), w, 5)
	last, three := impl.AnswerPath(query("//a"), w, 9)
	expect(t, "AnswerPath", "[0 4] 0 [2 5] 0 [9] 0", path, one, second, two, last, three)
}

func TestAnswersInOtherWords(t *testing.T) {
	for _, known := range []struct{ query, word, want string }{
		{"//.", "", "[]"}, {"/a", "a", "[0]"}, {"/a", ")a", "[1]"}, {"/a", "(a", "[]"}, {"//a", "(a", "[1]"}, {"/(/a", "(a", "[1]"},
		{"/(/a", ")](a", "[3]"}, {"/a", "(b)]a", "[4]"}, {"/[/[", "[[", "[1]"}, {"/[/[/a", "[)[]a", "[]"}, {"/(/b", "((]b", "[3]"},
		{"/(", "((", "[0]"}, {"//(", "((", "[0 1]"}, {"/*", "()[](", "[0 2 4]"}, {"//*/a", "a(a[a", "[2 4]"}, {"/*//a", "a(a[a", "[2 4]"}, {"//*//a", "a(a[a])a", "[2 4]"},
		{"/(//[//a", "((([[(a", "[6]"}, {"/(/[//a", "((([[(a", "[]"},
	} {
		answers, code := impl.AnswersOf(query(known.query), known.word)
		expect(t, known.query+" in "+known.word, told(known.want, 0), answers, code)
	}
}

// TestEveryTestAtEveryNode looks at nodes with and without parents.
func TestEveryTestAtEveryNode(t *testing.T) {
	for _, test := range strings.Split(testNames, "") {
		for _, s := range strings.Split(symbols, "") {
			for _, known := range []struct {
				query, word string
				at          int64
				depth       bool
			}{{"/", s, 0, true}, {"//", s, 0, true}, {"/", "(" + s, 1, false}, {"//", "[" + s, 1, true}, {"/*/", "[" + s, 1, true}, {"/*//", "((" + s, 2, true}, {"/*/", "((" + s, 2, false}} {
				q := query(known.query + test)
				passes, _ := impl.PassesTest(test, s)
				answers, _ := impl.AnswersOf(q, known.word)
				isAnswer := slices.Contains(answers, known.at)
				expect(t, told(known, test), told(passes && known.depth), isAnswer)
			}
		}
	}
}

// TestAnswersHavePaths compares answers and first paths with a search for paths.
func TestAnswersHavePaths(t *testing.T) {
	queries := sampleQueries()
	found := 0
	for number, w := range queriedWords() {
		lines := linesOf(w)
		for k := number % 7; k < len(queries); k += 7 {
			q := queries[k]
			want := answersOn(q, w, lines)
			answers, one := impl.AnswersOf(q, w)
			count, two := impl.CountAnswers(q, w)
			if !slices.Equal(answers, want) || count != int64(len(want)) || one != impl.OK || two != impl.OK {
				t.Fatalf("%s in %q: got %v, %d, want %v", textOfSteps(q), w, answers, count, want)
			}
			for i, line := range lines {
				path, shown := firstPathOn(q, w, line)
				checkAnswerPath(t, q, w, int64(i), path, shown)
				if shown {
					found++
				}
			}
		}
	}
	if found < 30000 {
		t.Errorf("%d answers are found", found)
	}
}

func checkAnswerPath(t *testing.T, q impl.Query, w string, i int64, want []int64, shown bool) {
	t.Helper()
	path, code := impl.AnswerPath(q, w, i)
	if !shown {
		expectError(t, w, impl.ErrNotFound, code, path)
		return
	}
	shows, again := impl.CheckPath(q, w, path)
	if !slices.Equal(path, want) || code != impl.OK || !shows || again != impl.OK {
		t.Fatalf("%s in %q: got the path %v and the code %d, want %v; shows is %v", textOfSteps(q), w, path, code, want, shows)
	}
}

// TestFirstOfSeveralPaths looks at all paths to answers.
func TestFirstOfSeveralPaths(t *testing.T) {
	for _, known := range []struct {
		query, word string
		at          int64
		want        string
	}{
		{"//(//a", "(((a", 3, "[0 3]"}, {"//(/a", "(((a", 3, "[2 3]"}, {"//(//(//a", "(([(a", 4, "[0 1 4]"}, {"//(/(//a", "[(([((a", 6, "[1 2 6]"},
		{"//(//[/a", "([[a", 3, "[0 2 3]"}, {"/(//(//(", "((((", 3, "[0 1 3]"}, {"//*/*//*", "((((", 3, "[0 1 3]"}, {"//*//*/*", "((((", 3, "[0 2 3]"},
		{"//*/[//*//*", "((([(((", 6, "[2 3 4 6]"}, {"//[//(/*//.", "[([([a", 5, "[0 1 2 5]"}, {"//(/[/(//a", "([[([([(a", 8, "[3 4 5 8]"},
		{"//*//*//*//*//*//b", strings.Repeat("(", 59) + "b", 59, "[0 1 2 3 4 59]"}, {"//*//*/*/*/*/b", strings.Repeat("(", 59) + "b", 59, "[0 55 56 57 58 59]"},
		{"/(", "a(", 1, "[1]"},
	} {
		path, code := impl.AnswerPath(query(known.query), known.word, known.at)
		expect(t, known.query+" in "+known.word, told(known.want, 0), path, code)
	}
	several := 0
	for _, w := range []string{"((((((a", "([([([([a", "[[(([[((b", "(a([b(a(a)[a]b)])", "(((([[[[((((", "[(b)[(b)[(b[b(b("} {
		for _, q := range sampleQueries() {
			for i, line := range linesOf(w) {
				paths := pathsOn(q, w, line)
				if len(paths) > 1 {
					several++
				}
				if len(paths) > 0 {
					checkAnswerPath(t, q, w, int64(i), paths[0], true)
				} else {
					checkAnswerPath(t, q, w, int64(i), nil, false)
				}
				for _, path := range paths {
					shows, code := impl.CheckPath(q, w, path)
					expect(t, told(textOfSteps(q), w, path), "true 0", shows, code)
				}
			}
		}
	}
	if several < 300 {
		t.Errorf("%d answers have several paths", several)
	}
}

func TestAnswerPathErrors(t *testing.T) {
	for _, w := range []string{"", "a", "(a)", strings.Repeat("a", impl.MaxWord), strings.Repeat("(", impl.MaxWord)} {
		for _, i := range farNumbers() {
			if i >= 0 && i < int64(len(w)) {
				continue
			}
			for _, text := range []string{"//a", "//(", "/a/b"} {
				path, code := impl.AnswerPath(query(text), w, i)
				expectError(t, w, impl.ErrRange, code, path)
			}
		}
	}
	for _, known := range []struct {
		query, word string
		at          int64
	}{{"/a", "(a)", 0}, {"/a", "(a)", 1}, {"/a", "(a)", 2}, {"//(", "()", 1}, {"//*", "(]", 1}, {"//*", ")", 0}, {"//.", "]", 0}, {"//a", "ab", 1}, {"//b", "ab", 0}, {"/*/*", "(()", 0}, {"/*/*", "(()", 2}, {"//a/a", "aa", 1}} {
		path, code := impl.AnswerPath(query(known.query), known.word, known.at)
		expectError(t, told(known), impl.ErrNotFound, code, path)
	}
}

// listsOf returns all lists of so many numbers below count.
func listsOf(length int, count int64) [][]int64 {
	lists := [][]int64{{}}
	for range length {
		var longer [][]int64
		for _, list := range lists {
			for n := range count {
				longer = append(longer, append(slices.Clone(list), n))
			}
		}
		lists = longer
	}
	return lists
}

// TestOnlyPathsShowAnswers looks at all lists of places of short words.
func TestOnlyPathsShowAnswers(t *testing.T) {
	l := lottery(199)
	words := append(wordsOf(3), "", "(", "a", "()", "([(a", "(([a)", "((a)", ")(([a", "[(a)", "([[b")
	for _, w := range words {
		lines := linesOf(w)
		for range 4 {
			q := l.query(1 + l.below(3))
			var paths [][]int64
			for _, line := range lines {
				paths = append(paths, pathsOn(q, w, line)...)
			}
			for length := range 5 {
				for _, list := range listsOf(length, int64(len(w))) {
					want := slices.ContainsFunc(paths, func(path []int64) bool { return slices.Equal(path, list) })
					shows, code := impl.CheckPath(q, w, list)
					if shows != want || code != impl.OK {
						t.Fatalf("%s in %q: %v is %v and the code %d", textOfSteps(q), w, list, shows, code)
					}
				}
			}
		}
	}
}

// TestChangedPaths changes paths of long words.
func TestChangedPaths(t *testing.T) {
	l := lottery(211)
	queries := sampleQueries()
	counts := map[bool]int{}
	for _, w := range deepWords() {
		lines := linesOf(w)
		for range 5 {
			q := queries[l.below(int64(len(queries)))]
			for i, line := range lines {
				path, shown := firstPathOn(q, w, line)
				if !shown {
					continue
				}
				changed := slices.Clone(path)
				changed[l.below(int64(len(path)))] = l.below(int64(i) + 1)
				last := lines[changed[len(path)-1]]
				want := isPathOn(q, w, last, changed)
				shows, code := impl.CheckPath(q, w, changed)
				if shows != want || code != impl.OK {
					t.Fatalf("%s in %q: %v is %v and the code %d", textOfSteps(q), w, changed, shows, code)
				}
				counts[shows]++
				for _, list := range [][]int64{nil, path[1:], path[:len(path)-1], append(slices.Clone(path), path[len(path)-1]), append([]int64{path[0]}, path...)} {
					shows, code = impl.CheckPath(q, w, list)
					expect(t, "a list of another length", "false 0", shows, code)
				}
			}
		}
	}
	if counts[true] < 500 || counts[false] < 500 {
		t.Errorf("the lists are %v", counts)
	}
}

// isPathOn reports whether a list shows that the last place of a line is an
// answer.
func isPathOn(q impl.Query, w string, line, path []int64) bool {
	from := 0
	for step, place := range path {
		next := slices.Index(line, place)
		if !slices.Contains(nextOn(q, w, line, step, from), next) {
			return false
		}
		from = next
	}
	return from == len(line)-1
}

func TestCheckPathErrors(t *testing.T) {
	for _, w := range []string{"", "(a)", strings.Repeat("(", impl.MaxWord)} {
		for _, i := range farNumbers() {
			if i >= 0 && i < int64(len(w)) {
				continue
			}
			// The range comes ahead of what the places show, and of how many they are.
			for _, list := range [][]int64{{i}, {i, i}, {i, i, i}, slices.Repeat([]int64{i}, 100)} {
				shows, code := impl.CheckPath(query("//(//a"), w, list)
				expectError(t, "CheckPath", impl.ErrRange, code, shows)
			}
			if w != "" {
				for _, list := range [][]int64{{0, i}, {i, 1}, {0, 1, i}, {1, 0, 0, 0, 0, 0, 0, i, 0}} {
					shows, code := impl.CheckPath(query("/(/a"), w, list)
					expectError(t, "CheckPath", impl.ErrRange, code, shows)
				}
			}
		}
		shows, code := impl.CheckPath(query("/(/a"), w, nil)
		expect(t, "no places", "false 0", shows, code)
	}
	long := make([]int64, 1000000)
	shows, code := impl.CheckPath(query("//("), "(", long)
	expect(t, "many places", "false 0", shows, code)
	long[len(long)-1] = 1
	shows, code = impl.CheckPath(query("//("), "(", long)
	expectError(t, "many places", impl.ErrRange, code, shows)
}
