package tests

import (
	"slices"
	"testing"

	"loop.example/g01145/impl"
)

// samplePairs returns pairs of queries of all lengths, some with the same answers.
func samplePairs() [][2]impl.Query {
	l := lottery(229)
	var pairs [][2]impl.Query
	short := append(allQueries(1), query("/(/a"), query("//(/."), query("/*//*"))
	for i, q := range short {
		pairs = append(pairs, [2]impl.Query{q, q}, [2]impl.Query{q, short[(i*5+1)%len(short)]}, [2]impl.Query{q, short[(i+1)%len(short)]})
	}
	for range 400 {
		pairs = append(pairs, [2]impl.Query{l.query(1 + l.below(impl.MaxQuery)), l.query(1 + l.below(impl.MaxQuery))})
	}
	for _, q := range sampleQueries() {
		r := copiedQuery(q)
		step := &r.Steps[l.below(int64(len(r.Steps)))]
		step.Deep = !step.Deep
		pairs = append(pairs, [2]impl.Query{q, r})
	}
	for _, texts := range [][2]string{
		{"/a", "//a"}, {"//*//*/a", "//*/*/a"}, {"//*/*//a", "//*//*/a"}, {"/a/b", "//.//*"}, {"//a//(", "//b/*"}, {"//*/*", "/*//*"}, {"//a", "//."}, {"/*", "//*"}, {"/(/(", "/(//("},
		{"//(/*/*/*/*/a", "//(/*/*/*/*/a"}, {"//(/*/*/*/*/a", "//(/*/*/*/*/b"}, {"//(/*/*/*/*/a", "//[/*/*/*/*/a"}, {"//*//*//*//*//*//a", "/*/*/*/*/*//a"},
	} {
		pairs = append(pairs, [2]impl.Query{query(texts[0]), query(texts[1])})
	}
	return pairs
}

func TestKnownCheckersOfQueries(t *testing.T) {
	for text, want := range map[string]string{
		"/a":   "checker 3 3 0\nno 1 0 1 0 0 1 2 0 0 1 2 0 2 0\nno 1 1 1 1 0 1 2 1 0 1 2 1 1 1\nyes 2 2 2 2 2 2 2 2 2 2 2 2 2 2\n",
		"//.":  "checker 2 2 0\nno 0 0 0 0 0 1 0 0 1 0 1 1\nyes 1 1 1 1 1 1 1 1 1 1 1 1\n",
		"//[":  "checker 2 2 0\nno 0 0 1 0 0 1 0 0 1 0 0 0\nyes 1 1 1 1 1 1 1 1 1 1 1 1\n",
		"/*":   "checker 2 2 0\nno 1 0 1 0 0 1 0 0 1 0 0 0\nyes 1 1 1 1 1 1 1 1 1 1 1 1\n",
		"/(":   "checker 3 3 0\nno 2 0 1 0 0 1 2 0 0 1 2 0 0 0\nno 1 1 1 1 0 1 2 1 0 1 2 1 1 1\nyes 2 2 2 2 2 2 2 2 2 2 2 2 2 2\n",
		"/[/b": "checker 4 4 0\nno 1 0 2 0 0 1 2 3 0 0 1 2 3 0 0 0\nno 1 1 1 1 0 1 2 3 1 0 1 2 3 1 1 1\nno 1 2 1 2 0 1 2 3 2 0 1 2 3 2 2 3\nyes 3 3 3 3 3 3 3 3 3 3 3 3 3 3 3 3\n",
	} {
		c, code := impl.QueryChecker(query(text))
		expectChecker(t, text, want, c, code)
	}
	c, code := impl.QueryChecker(query("/[//*"))
	expect(t, "calls of /[//*", "[[{1 0} {2 0}] [{1 1} {1 1}] [{3 2} {3 2}] [{3 3} {3 3}]] 0", c.Call, code)
	none := "checker 3 3 0\nno 1 0 1 0 0 1 2 0 0 1 2 0 0 0\nno 1 1 1 1 0 1 2 1 0 1 2 1 1 1\nyes 2 2 2 2 2 2 2 2 2 2 2 2 2 2\n"
	c, code = impl.UnlikeChecker(query("/a"), query("/a"))
	expectChecker(t, "the same twice", none, c, code)
	// A call at the outside is an answer of one of both.
	c, code = impl.UnlikeChecker(query("/("), query("/["))
	expectChecker(t, "/( and /[", "checker 2 2 0\nno 1 0 1 0 0 1 0 0 1 0 0 0\nyes 1 1 1 1 1 1 1 1 1 1 1 1\n", c, code)
	// It is an answer of both, and goes on.
	c, code = impl.UnlikeChecker(query("/*"), query("//*"))
	expectChecker(t, "/* and //*", "checker 3 3 0\nno 1 0 1 0 0 1 2 0 0 1 2 0 0 0\nno 2 1 2 1 0 1 2 1 0 1 2 1 1 1\nyes 2 2 2 2 2 2 2 2 2 2 2 2 2 2\n", c, code)
}

// checkChecker compares a checker with one that is made from lists.
func checkChecker(t *testing.T, name string, queries []impl.Query, c impl.Checker, code int64) bool {
	t.Helper()
	if len(sightsOf(queries)) >= impl.MaxStates {
		expectError(t, name, impl.ErrLimit, code, c)
		return false
	}
	want := checkerBySights(queries)
	if code != impl.OK || !impl.ValidChecker(c) || !impl.SameChecker(c, want) {
		t.Errorf("%s: got the code %d and %v, want %v", name, code, c, want)
	}
	return true
}

func TestCheckersOfQueries(t *testing.T) {
	for _, q := range slices.Concat(sampleQueries(), allQueries(2)) {
		c, code := impl.QueryChecker(q)
		expect(t, "is there", "true", checkChecker(t, textOfSteps(q), []impl.Query{q}, c, code))
	}
}

func TestCheckersOfUnlikeQueries(t *testing.T) {
	made, refused := 0, 0
	for _, pair := range samplePairs() {
		for _, queries := range [][]impl.Query{pair[:], {pair[1], pair[0]}} {
			c, code := impl.UnlikeChecker(queries[0], queries[1])
			if checkChecker(t, textOfSteps(queries[0])+" and "+textOfSteps(queries[1]), queries, c, code) {
				made++
			} else {
				refused++
			}
		}
	}
	if made < 1000 || refused < 2 {
		t.Errorf("%d are made, and %d are not", made, refused)
	}
}

func TestCheckersOfQueriesHaveAtMostMaxStates(t *testing.T) {
	for _, known := range []struct {
		first, second string
		states        int
	}{
		{"//(/*/(/*/[//a", "/[/[//.", 39}, {"//[/*/*/[/a", "/*/[//[/*//.", 40}, {"//(/*/*/*/*/(", "/*//[//a", 40}, {"//*/[//.", "//(/*/*/*/*/b", 40},
		{"//[/*/*/*//(/[", "/(//.", 0}, {"/(//(//(", "//[/*/*/(/[//a", 0}, {"//[/*/*/*/*/a", "/(/*/[//(", 0}, {"//(/*/*/*/*/a", "//[/*/(/*/[/a", 0},
	} {
		for _, q := range [][2]impl.Query{{query(known.first), query(known.second)}, {query(known.second), query(known.first)}} {
			c, one := impl.UnlikeChecker(q[0], q[1])
			word, two := impl.FirstQueryUnlike(q[0], q[1])
			if known.states == 0 {
				expectError(t, told("UnlikeChecker", known), impl.ErrLimit, one, c)
				expectError(t, told("FirstQueryUnlike", known), impl.ErrLimit, two, word)
				continue
			}
			expect(t, told(known), told(known.states, known.states, true, 0, 0, true), len(c.Accept), c.Stack, impl.ValidChecker(c), one, two, word != "")
		}
	}
	// One query never has too many lists.
	for text, states := range map[string]int{"//(/*/*/*/*/a": 33, "//[/*/*/*/*/.": 33, "/*//(/*/*/*/a": 18, "//*//*//*//*//*//a": 7, "/(/(/(/(/(/(": 8} {
		c, code := impl.QueryChecker(query(text))
		expect(t, text, told(states, 0), len(c.Accept), code)
	}
}

// TestCallsPutTheStatesInWhichTheyAreRead compares stacks with the states of runs,
// also at calls that are answers, and behind them.
func TestCallsPutTheStatesInWhichTheyAreRead(t *testing.T) {
	words := queriedWords()
	answered := 0
	check := func(name string, c impl.Checker, w string) {
		states, stack, code := impl.RunOf(c, w)
		var want []int64
		for i := range len(w) {
			switch {
			case isCall(w[i]):
				want = append(want, states[i])
				if c.Accept[states[i+1]] && !c.Accept[states[i]] {
					answered++
				}
			case isReturn(w[i]) && len(want) > 0:
				want = want[:len(want)-1]
			}
		}
		if code != impl.OK || !slices.Equal(stack, want) {
			t.Fatalf("%s and %q: got the code %d and the stack %v, want %v", name, w, code, stack, want)
		}
	}
	for number, q := range sampleQueries() {
		c, _ := impl.QueryChecker(q)
		for k := number % 17; k < len(words); k += 17 {
			check(textOfSteps(q), c, words[k])
		}
	}
	for number, pair := range samplePairs() {
		c, code := impl.UnlikeChecker(pair[0], pair[1])
		for k := number % 37; k < len(words) && code == impl.OK; k += 37 {
			check(textOfSteps(pair[0])+" and "+textOfSteps(pair[1]), c, words[k])
		}
	}
	if answered < 1000 {
		t.Errorf("%d calls are answers", answered)
	}
}

// TestCheckersTakeTheWordsWithAnswers compares runs, by places, with paths.
func TestCheckersTakeTheWordsWithAnswers(t *testing.T) {
	words := queriedWords()
	counts := map[bool]int{}
	for number, q := range sampleQueries() {
		c, _ := impl.QueryChecker(q)
		for k := number % 17; k < len(words); k += 17 {
			want := len(answersOn(q, words[k], linesOf(words[k]))) > 0
			if takesByPlaces(c, words[k]) != want {
				t.Fatalf("%s and %q: taken is %v", textOfSteps(q), words[k], !want)
			}
			counts[want]++
		}
	}
	if counts[true] < 1000 || counts[false] < 1000 {
		t.Errorf("the words are %v", counts)
	}
}

func TestCheckersTakeTheWordsWithOtherAnswers(t *testing.T) {
	words := queriedWords()
	counts := map[bool]int{}
	for number, pair := range samplePairs() {
		c, code := impl.UnlikeChecker(pair[0], pair[1])
		if code != impl.OK {
			continue
		}
		for k := number % 37; k < len(words); k += 37 {
			lines := linesOf(words[k])
			want := !slices.Equal(answersOn(pair[0], words[k], lines), answersOn(pair[1], words[k], lines))
			if takesByPlaces(c, words[k]) != want {
				t.Fatalf("%s, %s and %q: taken is %v", textOfSteps(pair[0]), textOfSteps(pair[1]), words[k], !want)
			}
			counts[want]++
		}
	}
	if counts[true] < 1000 || counts[false] < 1000 {
		t.Errorf("the words are %v", counts)
	}
}

// firstSighted returns the first word with a node that is an answer of one query
// alone. Such a word has calls around this node, and nothing else; of two with
// the same sights, only the first one has to be looked at.
func firstSighted(queries []impl.Query) (string, bool) {
	words, known := []string{""}, sightsOf(queries)[:1]
	for k := 0; k < len(words); k++ {
		for _, node := range []byte("([ab") {
			next, answers := sighted(queries, known[k], node)
			if answers == 1 {
				return words[k] + string(node), true
			}
			isSame := func(other sights) bool { return sameLists(other, next) }
			if isCall(node) && !slices.ContainsFunc(known, isSame) {
				words, known = append(words, words[k]+string(node)), append(known, next)
			}
		}
	}
	return "", false
}

func TestFirstWithAnswer(t *testing.T) {
	for text, want := range map[string]string{
		"/[/b": "[b 0", "/a": "a 0", "//(": "( 0", "//.": "a 0", "/*": "( 0", "//[": "[ 0", "/(/(/(/(/(/a": "(((((a 0", "//[//(//[/*//b": "[([(b 0", "/*/*/*/*/*/.": "(((((a 0",
		"//b/a": " 6", "/a/b": " 6", "/.//*": " 6", "//*//.//*": " 6", "/(/a/(": " 6", "/b/b/b/b/b/b": " 6", "//*/*/*/*/*/[": "((((([ 0",
	} {
		word, code := impl.FirstWithAnswer(query(text))
		expect(t, text, want, word, code)
	}
	for _, q := range slices.Concat(sampleQueries(), allQueries(2)) {
		word, code := impl.FirstWithAnswer(q)
		want, found := firstSighted([]impl.Query{q})
		if !found {
			expectError(t, textOfSteps(q), impl.ErrNotFound, code, word)
			continue
		}
		expect(t, textOfSteps(q), told(want, 0), word, code)
	}
}

func TestFirstQueryUnlike(t *testing.T) {
	for texts, want := range map[[2]string]string{
		{"/a", "//a"}: "(a 0", {"/a", "/b"}: "a 0", {"/(", "/*"}: "[ 0", {"/b", "/."}: "a 0", {"/a", "/a"}: " 6", {"//*//*/a", "//*/*/a"}: " 6", {"/a/b", "//.//*"}: " 6",
		{"//(//a", "//(/a"}: "([a 0", {"/[//a", "//[//a"}: "([a 0", {"/(/(", "/(//("}: "((( 0", {"//(", "/("}: "(( 0", {"/(/(/(/(/(/a", "/(/(/(/(/(/b"}: "(((((a 0", {"//*", "//("}: "[ 0",
		{"/[/[/a", "/[//[/a"}: "[([a 0", {"//[/(//b", "//[//(/b"}: "[([b 0", {"/*//a", "//*//a"}: " 6", {"/*//a", "/*//b"}: "(a 0",
	} {
		word, code := impl.FirstQueryUnlike(query(texts[0]), query(texts[1]))
		expect(t, told(texts), want, word, code)
	}
	codes := map[int64]int{}
	for _, pair := range samplePairs() {
		word, code := impl.FirstQueryUnlike(pair[0], pair[1])
		again, same := impl.FirstQueryUnlike(pair[1], pair[0])
		expect(t, "the other way round", told(word, code), again, same)
		codes[code]++
		name := textOfSteps(pair[0]) + " and " + textOfSteps(pair[1])
		want, found := firstSighted(pair[:])
		switch {
		case len(sightsOf(pair[:])) >= impl.MaxStates:
			expectError(t, name, impl.ErrLimit, code, word)
		case !found:
			expectError(t, name, impl.ErrNotFound, code, word)
		default:
			expect(t, name, told(want, 0), word, code)
		}
	}
	if codes[impl.OK] < 300 || codes[impl.ErrNotFound] < 40 || codes[impl.ErrLimit] < 2 {
		t.Errorf("the codes are %v", codes)
	}
}

// TestFirstWordsOfQueriesAreFirst looks at all short words.
func TestFirstWordsOfQueriesAreFirst(t *testing.T) {
	short := allShort()
	lines := map[string][][]int64{}
	for _, w := range short {
		lines[w] = linesOf(w)
	}
	answers := func(q impl.Query, w string) []int64 {
		if lines[w] == nil {
			return answersOn(q, w, linesOf(w))
		}
		return answersOn(q, w, lines[w])
	}
	for i, q := range sampleQueries() {
		if i%3 > 0 {
			continue
		}
		word, code := impl.FirstWithAnswer(q)
		expectFirst(t, textOfSteps(q), short, func(w string) bool { return len(answers(q, w)) > 0 }, word, code)
	}
	for i, pair := range samplePairs() {
		if i%7 > 0 {
			continue
		}
		word, code := impl.FirstQueryUnlike(pair[0], pair[1])
		if code == impl.ErrLimit {
			continue
		}
		isUnlike := func(w string) bool { return !slices.Equal(answers(pair[0], w), answers(pair[1], w)) }
		expectFirst(t, textOfSteps(pair[0])+" and "+textOfSteps(pair[1]), short, isUnlike, word, code)
		if code == impl.OK && len(word) > 1 {
			expect(t, "without its last symbol", "false", isUnlike(word[:len(word)-1]))
		}
	}
}
