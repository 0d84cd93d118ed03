package tests

import (
	"math"
	"slices"
	"strings"
	"testing"

	"loop.example/g01145/impl"
)

func TestRewriterLimits(t *testing.T) {
	expect(t, "limits", "8 4 1 2 3 4 5", impl.MaxRewrite, impl.MaxOut, impl.EdPut, impl.EdCut, impl.EdOpen, impl.EdWrap, impl.EdName)
}

func TestChapter6Example(t *testing.T) {
	unwrap, one := impl.UnwrapRewriter("[")
	thin, two := impl.ThinRewriter("a")
	fixed, three := impl.Rewrite(impl.FixRewriter(), "(a][b)")
	open, four := impl.Rewrite(unwrap, "[a(b)]")
	thinned, five := impl.Rewrite(thin, "aa(aa)")
	e, six := impl.ReadTreeEdit("wrap 1 2 ()")
	edited, seven := impl.EditTree("ab", e)
	back, eight := impl.UndoTreeEdit("ab", e)
	expect(t, "example", "0 0 (a)[b] 0 a(b) 0 a(a) 0 0 a(b) 0 open 1 0",
		one, two, fixed, three, open, four, thinned, five, six, edited, seven, impl.TreeEditText(back), eight)
}

func TestRewritersAreValid(t *testing.T) {
	for i, r := range sampleRewriters() {
		if !impl.ValidRewriter(r) || !impl.ValidRewriter(copiedRewriter(r)) {
			t.Errorf("%d: %v is valid", i, r)
		}
	}
	l := lottery(263)
	r := l.anyRewriter(3, 2)
	for i, number := range rewriterNumbers(&r) {
		for value := range number.count {
			s := copiedRewriter(r)
			*rewriterNumbers(&s)[i].at = value
			expect(t, told("the number", i, value), "true", impl.ValidRewriter(s))
		}
	}
	for i := range rewriterTexts(&r) {
		s := copiedRewriter(r)
		for _, out := range outTexts {
			*rewriterTexts(&s)[i].at = out
			expect(t, told("the text", i, out), "true", impl.ValidRewriter(s))
		}
	}
}

func TestSizesOfRewriters(t *testing.T) {
	for states := range int64(12) {
		for marks := range int64(12) {
			want := states >= 1 && states <= impl.MaxRewrite && marks >= 1 && marks <= impl.MaxRewrite
			r := evenRewriter(states, marks, 0, 0, "ab")
			expect(t, told("states and marks", states, marks), told(want), impl.ValidRewriter(r))
		}
	}
	for length := range 8 {
		want := length <= impl.MaxOut
		expect(t, told("symbols", length), told(want), impl.ValidRewriter(evenRewriter(2, 2, 1, 1, strings.Repeat("[", length))))
	}
}

func TestBrokenRewritersAreNotValid(t *testing.T) {
	for i, r := range brokenRewriters() {
		if impl.ValidRewriter(r) {
			t.Errorf("%d: %.300s is not valid", i, told(r))
		}
	}
}

func TestSameRewriters(t *testing.T) {
	list := slices.Concat(sampleRewriters(), brokenRewriters())
	for i, r := range list {
		if !impl.SameRewriter(r, copiedRewriter(r)) || !impl.SameRewriter(copiedRewriter(r), r) {
			t.Errorf("the rewriter %d is the same as its copy", i)
		}
	}
	l := lottery(269)
	r := l.anyRewriter(3, 2)
	differs := func(change func(s *impl.Rewriter)) {
		s := copiedRewriter(r)
		change(&s)
		if impl.SameRewriter(r, s) || impl.SameRewriter(s, r) {
			t.Errorf("%v and %v are not the same", r, s)
		}
	}
	for i := range rewriterNumbers(&r) {
		differs(func(s *impl.Rewriter) { *rewriterNumbers(s)[i].at++ })
		differs(func(s *impl.Rewriter) { *rewriterNumbers(s)[i].at = math.MinInt64 })
	}
	for i := range rewriterTexts(&r) {
		differs(func(s *impl.Rewriter) { *rewriterTexts(s)[i].at += "a" })
		differs(func(s *impl.Rewriter) { *rewriterTexts(s)[i].at = "no text" })
	}
	for _, change := range rewriterLengthChanges() {
		differs(func(s *impl.Rewriter) { change(s, 1) })
		differs(func(s *impl.Rewriter) { change(s, -1) })
	}
	differs(func(s *impl.Rewriter) { s.Stack++ })
}

func TestSameRewritersOfNoLists(t *testing.T) {
	empty := impl.Rewriter{Call: [][]impl.OutPush{}, Return: [][][]impl.OutMove{}, Inner: [][]impl.OutMove{}}
	inside := impl.Rewriter{Call: [][]impl.OutPush{nil}, Return: [][][]impl.OutMove{nil, {nil}}, Inner: [][]impl.OutMove{nil}}
	spelt := impl.Rewriter{Call: [][]impl.OutPush{{}}, Return: [][][]impl.OutMove{{}, {{}}}, Inner: [][]impl.OutMove{{}}}
	expect(t, "no lists", "true true true true false", impl.SameRewriter(empty, impl.Rewriter{}), impl.SameRewriter(impl.Rewriter{}, empty),
		impl.SameRewriter(inside, spelt), impl.SameRewriter(spelt, inside), impl.SameRewriter(inside, empty))
}

// TestEachMoveWrites gives each move of a rewriter a text of its own.
func TestEachMoveWrites(t *testing.T) {
	r := impl.Rewriter{
		Stack: 2, Start: 1,
		Call: [][]impl.OutPush{{{To: 1, Put: 1, Out: "aa"}, {To: 0, Put: 0, Out: "ab"}}, {{To: 0, Put: 0, Out: "ba"}, {To: 1, Put: 1, Out: "bb"}}},
		Return: [][][]impl.OutMove{
			{{{To: 1, Out: "(("}, {To: 0, Out: "(["}, {To: 1, Out: "()"}}, {{To: 0, Out: "[("}, {To: 1, Out: "[["}, {To: 0, Out: "[)"}}},
			{{{To: 0, Out: ")("}, {To: 1, Out: ")["}, {To: 0, Out: "))"}}, {{To: 1, Out: "]("}, {To: 0, Out: "]["}, {To: 1, Out: "])"}}},
		},
		Inner: [][]impl.OutMove{{{To: 1, Out: "(a"}, {To: 0, Out: "(b"}}, {{To: 0, Out: "[a"}, {To: 1, Out: "[b"}}},
	}
	for w, want := range map[string]string{
		"": " 0", "(": "ba 0", "[": "bb 0", ")": ")) 0", "]": "]) 0", "a": "[a 0", "b": "[b 0", "aa": "[a(a 0", "ab": "[a(b 0", "a(": "[aaa 0", "a[": "[aab 0", "a)": "[a() 0", "a]": "[a[) 0",
		"()": "ba(( 0", "(]": "ba[( 0", "[)": "bb)[ 0", "[]": "bb][ 0", "a()": "[aaa)[ 0", "a(]": "[aaa][ 0", "a[)": "[aab(( 0", "a[]": "[aab[( 0",
		"(a)": "ba(a)( 0", "(a]": "ba(a]( 0", "[a)": "bb[a([ 0", "[a]": "bb[a[[ 0", "())": "ba(()) 0", "[)]": "bb)[]) 0", ")(": "))aa 0", "(])": "ba[(() 0",
	} {
		text, code := impl.Rewrite(r, w)
		expect(t, w, want, text, code)
	}
}

func TestRewritten(t *testing.T) {
	words := slices.Concat(shortWords(), matchedOnly(wordsOf(4)), []string{"([a)b]", "]a)(b[", "))((", "[[a]]]", strings.Repeat("([", 30), strings.Repeat(")", 60), strings.Repeat("(", 30) + strings.Repeat("]", 30)})
	for i, r := range sampleRewriters() {
		expectWritten(t, told("the rewriter", i), r, words, func(w string) string { return writtenFor(r, w) })
	}
}

func TestRewrittenOn(t *testing.T) {
	l := lottery(271)
	for i, r := range sampleRewriters() {
		for _, w := range shortWords() {
			start, marks := l.below(int64(len(r.Call))), l.list(l.below(6), r.Stack)
			checkRewriteOn(t, told("the rewriter", i), r, start, marks, w)
		}
	}
}

// checkRewriteOn compares with a rewriter that follows the places, and returns
// whether the word is rewritten.
func checkRewriteOn(t *testing.T, name string, r impl.Rewriter, start int64, marks []int64, w string) bool {
	t.Helper()
	state, stack, text, code := impl.RewriteOn(r, start, marks, w)
	wantState, wantStack, wantText := rewrittenByPlaces(r, start, marks, w)
	if len(wantText) > impl.MaxWord || len(wantStack) > impl.MaxWord {
		expectError(t, name+" and "+w, impl.ErrLimit, code, state, stack, text)
		return false
	}
	if state != wantState || !slices.Equal(stack, wantStack) || text != wantText || code != impl.OK {
		t.Fatalf("%s and %q from %d with %v: got %d, %v, %q and the code %d, want %d, %v and %q", name, w, start, marks, state, stack, text, code, wantState, wantStack, wantText)
	}
	return true
}

// TestRewrittenInPieces cuts words at every place, and into single symbols.
func TestRewrittenInPieces(t *testing.T) {
	words := slices.Concat(wordsOf(3), randomWords(1), []string{"", "([a)b]", "]a)(b[", strings.Repeat("([", 8) + strings.Repeat(")]", 7), strings.Repeat(")", 5) + strings.Repeat("([", 10)})
	whole := 0
	for i, r := range sampleRewriters() {
		for _, w := range words {
			state, stack, text := rewrittenByPlaces(r, r.Start, nil, w)
			if len(text) > impl.MaxWord {
				continue
			}
			whole++
			want := told(state, stack, text)
			for cut := range len(w) + 1 {
				expect(t, told("the rewriter", i, w, "cut at", cut), want, rewrittenPieces(t, r, w[:cut], w[cut:])...)
			}
			expect(t, told("the rewriter", i, w, "in symbols"), want, rewrittenPieces(t, r, strings.Split(w, "")...)...)
		}
	}
	if whole < 5000 {
		t.Errorf("%d words are rewritten", whole)
	}
}

// rewrittenPieces goes on with each piece, and returns the state, the stack and
// all that has been written.
func rewrittenPieces(t *testing.T, r impl.Rewriter, pieces ...string) []any {
	t.Helper()
	state, stack, all := r.Start, []int64(nil), ""
	for _, piece := range pieces {
		next, left, text, code := impl.RewriteOn(r, state, stack, piece)
		if code != impl.OK {
			t.Fatalf("%q: got the code %d", piece, code)
		}
		state, stack, all = next, left, all+text
	}
	return []any{state, stack, all}
}

// lengthRewriter writes 4 symbols for "a", one for "b", and for "(", ")", "[" and
// "]" 3, 2, 1 and none.
func lengthRewriter() impl.Rewriter { return sameTexts("(((", "[", "))", "", "abab", "b") }

func TestResultsHaveAtMostMaxWordSymbols(t *testing.T) {
	fifteen := strings.Repeat("a", 15)
	for w, want := range map[string]int{
		fifteen: 60, fifteen + "]": 60, fifteen + "]]]]": 60, fifteen + "b": 61, fifteen + "a": 64, "b" + fifteen: 61, fifteen[1:] + "(b": 60, fifteen[1:] + "(": 59, fifteen[1:] + "((": 62, fifteen[1:] + "))": 60, fifteen[1:] + "))[": 61,
		strings.Repeat("b", 60): 60, strings.Repeat("(", 20): 60, strings.Repeat("(", 20) + "[": 61, strings.Repeat(")", 30): 60, strings.Repeat(")", 30) + "b": 61, strings.Repeat("]", 60): 0, strings.Repeat("[", 60): 60,
		strings.Repeat("a", 60): 240, strings.Repeat("(", 60): 180,
	} {
		text, code := impl.Rewrite(lengthRewriter(), w)
		state, stack, on, again := impl.RewriteOn(lengthRewriter(), 0, nil, w)
		if want > impl.MaxWord {
			expectError(t, w, impl.ErrLimit, code, text)
			expectError(t, w, impl.ErrLimit, again, state, stack, on)
			continue
		}
		expect(t, w, told(want, 0, true, 0), len(text), code, text == on, again)
		checkRewriteOn(t, "lengths", lengthRewriter(), 0, nil, w)
	}
}

// TestStacksHaveAtMostMaxWordMarks counts the marks behind words, not those on
// the way.
func TestStacksHaveAtMostMaxWordMarks(t *testing.T) {
	r := made(impl.ThinRewriter("a"))
	s := evenRewriter(3, 2, 2, 1, "")
	for _, known := range []struct {
		marks  int
		w      string
		behind int
	}{
		{0, "", 0}, {60, "", 60}, {59, "(", 60}, {60, "(", 61}, {60, "()", 60}, {60, "(()", 61}, {60, ")", 59}, {60, ")(", 60}, {60, ")((", 61}, {59, "[a", 60}, {59, "[[", 61}, {60, "ab", 60},
		{60, strings.Repeat("(", 30) + strings.Repeat("]", 30), 60}, {60, strings.Repeat("([", 15) + strings.Repeat("]", 29), 61}, {60, strings.Repeat(")", 60), 0}, {0, strings.Repeat("(", 60), 60},
		{1, strings.Repeat("(", 60), 61}, {1, strings.Repeat("(", 59), 60}, {60, strings.Repeat("(", 60), 120}, {30, strings.Repeat("[", 30), 60}, {30, strings.Repeat("[", 31), 61}, {31, ")" + strings.Repeat("[", 30), 60},
	} {
		for _, pair := range []impl.Rewriter{r, s} {
			ok := checkRewriteOn(t, told(known), pair, 1, make([]int64, known.marks), known.w)
			expect(t, told(known), told(known.behind <= impl.MaxWord), ok)
		}
	}
}

func TestRewriteOnRange(t *testing.T) {
	l := lottery(277)
	r := l.anyRewriter(4, 3)
	for _, start := range []int64{math.MinInt64, -1, 4, 5, 1 << 32, math.MaxInt64} {
		for _, w := range []string{"", "a", "(a)", strings.Repeat("(", impl.MaxWord)} {
			state, stack, text, code := impl.RewriteOn(r, start, nil, w)
			expectError(t, "the state", impl.ErrRange, code, state, stack, text)
		}
	}
	for _, mark := range []int64{math.MinInt64, -1, 3, 4, 1 << 32, math.MaxInt64} {
		for _, marks := range [][]int64{{mark}, {0, mark}, {mark, 0}, {2, mark, 1}, append(make([]int64, 59), mark)} {
			state, stack, text, code := impl.RewriteOn(r, 0, marks, "a)")
			expectError(t, "a mark", impl.ErrRange, code, state, stack, text)
		}
	}
	for _, height := range []int64{impl.MaxWord + 1, impl.MaxWord + 2, 1000000} {
		// It does not help that the stack behind the word would be low enough, and a limit is no matter yet.
		for _, w := range []string{"", ")", strings.Repeat(")", impl.MaxWord), strings.Repeat("(", impl.MaxWord)} {
			state, stack, text, code := impl.RewriteOn(r, 0, make([]int64, height), w)
			expectError(t, "the height", impl.ErrRange, code, state, stack, text)
		}
	}
	for _, start := range []int64{0, 3} {
		for _, mark := range []int64{0, 2} {
			_, _, _, code := impl.RewriteOn(r, start, []int64{mark}, "")
			expect(t, "the ends", "0", code)
		}
	}
}

// expectInvalidRewriting checks the functions that rewrite words; their other
// arguments are wrong, too.
func expectInvalidRewriting(t *testing.T, r impl.Rewriter, w string) {
	t.Helper()
	text, one := impl.Rewrite(r, w)
	expectError(t, "Rewrite", impl.ErrInvalid, one, text)
	for _, start := range []int64{-1, 0, 50} {
		for _, marks := range [][]int64{nil, {-1}, {100}, make([]int64, 61)} {
			state, stack, on, two := impl.RewriteOn(r, start, marks, w)
			expectError(t, "RewriteOn", impl.ErrInvalid, two, state, stack, on)
		}
	}
}

func TestBrokenRewritersDoNotRewrite(t *testing.T) {
	for _, r := range brokenRewriters() {
		for _, w := range []string{"", "(", "a(b])[", "]", "c", strings.Repeat("a", impl.MaxWord+1)} {
			expectInvalidRewriting(t, r, w)
		}
	}
}

func TestNoWordsAreNotRewritten(t *testing.T) {
	for _, w := range noWords() {
		expectInvalidRewriting(t, impl.IdentityRewriter(), w)
		expectInvalidRewriting(t, evenRewriter(impl.MaxRewrite, impl.MaxRewrite, 0, 0, ""), w)
	}
}
