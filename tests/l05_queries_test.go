package tests

import (
	"slices"
	"strings"
	"testing"

	"loop.example/g01145/impl"
)

func TestQueriesAreValid(t *testing.T) {
	for _, q := range sampleQueries() {
		expect(t, textOfSteps(q), "true true", impl.ValidQuery(q), impl.ValidQuery(copiedQuery(q)))
	}
	for steps := range 20 {
		for _, deep := range []int{0, 1<<steps - 1} {
			q := queryOf(strings.Repeat("*", steps), deep)
			expect(t, textOfSteps(q), told(steps >= 1 && steps <= impl.MaxQuery), impl.ValidQuery(q))
		}
	}
	for _, q := range brokenQueries() {
		expect(t, told(q), "false", impl.ValidQuery(q))
	}
}

func TestTextsOfQueries(t *testing.T) {
	for text, want := range map[string]impl.Query{
		"/(":                 {Steps: []impl.QueryStep{{Test: "("}}},
		"//.":                {Steps: []impl.QueryStep{{Deep: true, Test: "."}}},
		"/(//a":              {Steps: []impl.QueryStep{{Test: "("}, {Deep: true, Test: "a"}}},
		"//[/*/b":            {Steps: []impl.QueryStep{{Deep: true, Test: "["}, {Test: "*"}, {Test: "b"}}},
		"/a/b//.":            {Steps: []impl.QueryStep{{Test: "a"}, {Test: "b"}, {Deep: true, Test: "."}}},
		"/(/[/(//[/*/a":      queryOf("([([*a", 8),
		"//*//*//*//*//*//*": queryOf("******", 63),
	} {
		expect(t, "QueryText", text, impl.QueryText(want))
		q, code := impl.ReadQuery(text)
		expectQuery(t, text, want, q, code)
	}
	for _, q := range slices.Concat(sampleQueries(), allQueries(3)) {
		text := impl.QueryText(q)
		expect(t, "QueryText", textOfSteps(q), text)
		again, code := impl.ReadQuery(text)
		expectQuery(t, text, q, again, code)
	}
	for _, q := range brokenQueries() {
		expect(t, told(q), "", impl.QueryText(q))
	}
}

// isQueryText takes the steps off, one after the other.
func isQueryText(text string) bool {
	steps := 0
	for ; text != ""; steps++ {
		rest, marked := strings.CutPrefix(text, "/")
		rest = strings.TrimPrefix(rest, "/")
		if !marked || rest == "" || strings.IndexByte(testNames, rest[0]) < 0 {
			return false
		}
		text = rest[1:]
	}
	return steps > 0 && steps <= impl.MaxQuery
}

func expectNoQuery(t *testing.T, text string) {
	t.Helper()
	q, code := impl.ReadQuery(text)
	expectError(t, "ReadQuery of "+text[:min(len(text), 30)], impl.ErrSyntax, code, q)
}

func TestTextsOfNoQuery(t *testing.T) {
	for _, text := range []string{
		"", "/", "//", "///", "a", "(", "*", ".", "a/", "a/b", "a//b", "/a/", "/a//", "/a///b", "///a", "////a", "/a/b/", "/ab", "/a b", " /a", "/a ", "/ a", "/a\n",
		"\n/a", "/)", "/]", "//)", "/c", "/A", "/**", "/*.", "/()", "/(a)", "\\a", "/a\\b", "/(/)/a", "/\x00", "/a\x00", "/é", "／a", "/-", "/a|b", "//a//", "/(//", "x/a", "()", "/(/a/(/a/(/a/", "/a//b///a",
		strings.Repeat("/*", impl.MaxQuery+1), strings.Repeat("//*", impl.MaxQuery+1), strings.Repeat("/*", impl.MaxQuery) + "/", strings.Repeat("/*", impl.MaxQuery) + "//", strings.Repeat("/*", 100),
	} {
		expectNoQuery(t, text)
	}
	for _, text := range noWords() {
		expectNoQuery(t, text)
		if text != "*" {
			expectNoQuery(t, "/"+text)
		}
	}
	for _, text := range []string{strings.Repeat("/", 1000000), strings.Repeat("/a", 500000), strings.Repeat("a", 1000000), "//" + strings.Repeat("*", 999998), strings.Repeat("/*", impl.MaxQuery) + strings.Repeat("/", 900000)} {
		expectNoQuery(t, text)
	}
}

// TestAllShortTexts reads all texts of up to six of some letters.
func TestAllShortTexts(t *testing.T) {
	texts, queries := []string{""}, 0
	for range 7 {
		var longer []string
		for _, text := range texts {
			q, code := impl.ReadQuery(text)
			if isQueryText(text) {
				expectQuery(t, text, query(text), q, code)
				queries++
			} else if code != impl.ErrSyntax || len(q.Steps) > 0 {
				t.Errorf("%q: got the code %d and %v", text, code, q)
			}
			for _, letter := range "/a*)" {
				longer = append(longer, text+string(letter))
			}
		}
		texts = longer
	}
	expect(t, "texts of queries", "28", queries)
}

func TestSameQueries(t *testing.T) {
	list := slices.Concat(sampleQueries(), brokenQueries())
	var texts []string
	for _, q := range list {
		texts = append(texts, told(q))
		expect(t, told(q), "true", impl.SameQuery(q, copiedQuery(q)))
	}
	for i, q := range list {
		for k, r := range list {
			if impl.SameQuery(q, r) != (texts[i] == texts[k]) {
				t.Errorf("%v and %v", q, r)
			}
		}
	}
	expect(t, "nil and empty", "true true", impl.SameQuery(impl.Query{}, impl.Query{Steps: []impl.QueryStep{}}), impl.SameQuery(impl.Query{Steps: []impl.QueryStep{}}, impl.Query{}))
	expect(t, "others", "false false false false", impl.SameQuery(query("/a"), query("//a")), impl.SameQuery(query("/a"), query("/b")),
		impl.SameQuery(query("/a"), query("/a/a")), impl.SameQuery(query("/(/a"), query("/(")))
}

func TestPassesTest(t *testing.T) {
	want := map[string]string{
		"(": "true false false false false false",
		"[": "false true false false false false",
		"a": "false false false false true false",
		"b": "false false false false false true",
		"*": "true true false false false false",
		".": "false false false false true true",
	}
	for test, row := range want {
		var got []any
		for _, s := range strings.Split(symbols, "") {
			passes, code := impl.PassesTest(test, s)
			expect(t, test+" and "+s, "0", code)
			got = append(got, passes)
		}
		expect(t, test, row, got...)
	}
}

func TestPassesTestErrors(t *testing.T) {
	isStar := func(text string) bool { return text == "*" }
	strange := append(slices.DeleteFunc(noWords(), isStar), "", "**", "..", "*.", "((", "aa", "ab", "()", "/", "//", "/a", "([)]ab", "([ab*.")
	for _, text := range strange {
		for _, test := range strings.Split(testNames, "") {
			passes, code := impl.PassesTest(test, text)
			expectError(t, "no symbol", impl.ErrRange, code, passes)
		}
		for _, s := range strings.Split(symbols, "") {
			passes, code := impl.PassesTest(text, s)
			expectError(t, "no test", impl.ErrRange, code, passes)
		}
		passes, code := impl.PassesTest(text, text)
		expectError(t, "neither", impl.ErrRange, code, passes)
	}
	for _, test := range []string{")", "]"} {
		passes, code := impl.PassesTest(test, test)
		expectError(t, "a return is no test", impl.ErrRange, code, passes)
	}
	for _, s := range []string{"*", "."} {
		passes, code := impl.PassesTest(s, s)
		expectError(t, "a test is no symbol", impl.ErrRange, code, passes)
	}
}

// TestFunctionsExpectValidQueries gives no function of the chapter a valid query
// or a word; this comes ahead of all other errors.
func TestFunctionsExpectValidQueries(t *testing.T) {
	for _, q := range brokenQueries() {
		for _, w := range []string{"", "(a)", "c"} {
			expectInvalidQuery(t, q, w)
		}
		for _, r := range []impl.Query{query("/a"), q} {
			for _, pair := range [][2]impl.Query{{q, r}, {r, q}} {
				c, one := impl.UnlikeChecker(pair[0], pair[1])
				expectError(t, "UnlikeChecker", impl.ErrInvalid, one, c)
				word, two := impl.FirstQueryUnlike(pair[0], pair[1])
				expectError(t, "FirstQueryUnlike", impl.ErrInvalid, two, word)
			}
		}
		c, one := impl.QueryChecker(q)
		expectError(t, "QueryChecker", impl.ErrInvalid, one, c)
		word, two := impl.FirstWithAnswer(q)
		expectError(t, "FirstWithAnswer", impl.ErrInvalid, two, word)
		x, three := impl.StartWatcher(q)
		expectError(t, "StartWatcher", impl.ErrInvalid, three, x)
	}
	for _, w := range noWords() {
		expectInvalidQuery(t, query("//a"), w)
		expectInvalidQuery(t, query("/(/(/(/(//(//a"), w)
	}
}

func expectInvalidQuery(t *testing.T, q impl.Query, w string) {
	t.Helper()
	answers, one := impl.AnswersOf(q, w)
	expectError(t, "AnswersOf", impl.ErrInvalid, one, answers)
	count, two := impl.CountAnswers(q, w)
	expectError(t, "CountAnswers", impl.ErrInvalid, two, count)
	memory, three := impl.MemoryOf(q, w)
	expectError(t, "MemoryOf", impl.ErrInvalid, three, memory)
	for _, i := range []int64{-1, 0, 1, 3, impl.MaxWord} {
		path, four := impl.AnswerPath(q, w, i)
		expectError(t, "AnswerPath", impl.ErrInvalid, four, path)
		for _, list := range [][]int64{nil, {i}, {0, i}} {
			shows, five := impl.CheckPath(q, w, list)
			expectError(t, "CheckPath", impl.ErrInvalid, five, shows)
		}
	}
}
