package tests

import (
	"math"
	"slices"
	"strings"
	"testing"

	"loop.example/g01145/impl"
)

func TestCodeNames(t *testing.T) {
	names := []string{"ok", "invalid", "range", "limit", "state", "syntax", "notfound", "budget", "proof"}
	codes := []int64{impl.OK, impl.ErrInvalid, impl.ErrRange, impl.ErrLimit, impl.ErrState, impl.ErrSyntax, impl.ErrNotFound, impl.ErrBudget, impl.ErrProof}
	for i, name := range names {
		if codes[i] != int64(i) || impl.CodeName(int64(i)) != name {
			t.Errorf("%d: got %d and %q, want %q", i, codes[i], impl.CodeName(int64(i)), name)
		}
	}
	for _, code := range []int64{-1, 9, 10, 256, 1 << 32, math.MinInt64, math.MaxInt64} {
		if name := impl.CodeName(code); name != "" {
			t.Errorf("%d has the name %q", code, name)
		}
	}
}

func TestLimits(t *testing.T) {
	expect(t, "limits", "60 20", impl.MaxWord, impl.MaxCounted)
}

func TestValidWords(t *testing.T) {
	for _, w := range sampleWords() {
		if !impl.ValidWord(w) {
			t.Errorf("%q is a word", w)
		}
	}
	for _, w := range noWords() {
		if impl.ValidWord(w) {
			t.Errorf("%.80q is no word", w)
		}
	}
	for letter := range 256 {
		w := string([]byte{byte(letter)})
		if want := strings.Contains(symbols, w); impl.ValidWord(w) != want {
			t.Errorf("%q: got %v, want %v", w, !want, want)
		}
	}
}

func TestNoWordsAreInvalid(t *testing.T) {
	for _, w := range noWords() {
		partners, one := impl.PartnersOf(w)
		expectError(t, "PartnersOf", impl.ErrInvalid, one, partners)
		returns, calls, two := impl.PendingOf(w)
		expectError(t, "PendingOf", impl.ErrInvalid, two, returns, calls)
		matched, three := impl.IsMatched(w)
		expectError(t, "IsMatched", impl.ErrInvalid, three, matched)
		depths, four := impl.DepthsOf(w)
		expectError(t, "DepthsOf", impl.ErrInvalid, four, depths)
		depth, five := impl.DepthOf(w)
		expectError(t, "DepthOf", impl.ErrInvalid, five, depth)
		turned, six := impl.TurnWord(w)
		expectError(t, "TurnWord", impl.ErrInvalid, six, turned)
		for _, pair := range [][2]string{{w, ""}, {"", w}, {w, "("}, {strings.Repeat("a", impl.MaxWord), w}, {w, w}} {
			joined, seven := impl.JoinWords(pair[0], pair[1])
			expectError(t, "JoinWords", impl.ErrInvalid, seven, joined)
		}
		factors, eight := impl.FactorsOf(w)
		expectError(t, "FactorsOf", impl.ErrInvalid, eight, factors)
		core, nine := impl.CoreOf(w)
		expectError(t, "CoreOf", impl.ErrInvalid, nine, core)
		full, ten := impl.CompleteWord(w)
		expectError(t, "CompleteWord", impl.ErrInvalid, ten, full)
		parents, eleven := impl.ParentsOf(w)
		expectError(t, "ParentsOf", impl.ErrInvalid, eleven, parents)
		rank, twelve := impl.RankMatched(w)
		expectError(t, "RankMatched", impl.ErrInvalid, twelve, rank)
		shape, last := impl.ShapeOf(w)
		expectError(t, "ShapeOf", impl.ErrInvalid, last, shape)
	}
}

func TestNoWordsAreInvalidAheadOfPlaces(t *testing.T) {
	for _, w := range noWords() {
		for _, i := range []int64{math.MinInt64, -2, -1, 0, 1, 60, 61, math.MaxInt64} {
			for _, pair := range [][2]string{{w, ""}, {"", w}, {w, "("}, {strings.Repeat("(", impl.MaxWord), w}} {
				put, one := impl.PutAt(pair[0], i, pair[1])
				expectError(t, "PutAt", impl.ErrInvalid, one, put)
			}
			body, two := impl.BodyOf(w, i)
			expectError(t, "BodyOf", impl.ErrInvalid, two, body)
			cut, three := impl.CutMatched(w, i)
			expectError(t, "CutMatched", impl.ErrInvalid, three, cut)
			children, four := impl.ChildrenOf(w, i)
			expectError(t, "ChildrenOf", impl.ErrInvalid, four, children)
		}
	}
}

func TestChapter1Example(t *testing.T) {
	partners, one := impl.PartnersOf("(a[b]")
	returns, calls, two := impl.PendingOf("(a[b]")
	depth, three := impl.DepthOf("(a[b]")
	expect(t, "matching", "[-2 -1 4 -1 2] 0 0 1 0 2 0", partners, one, returns, calls, two, depth, three)
	core, four := impl.CoreOf("(a[b]")
	full, five := impl.CompleteWord("(a[b]")
	factors, six := impl.FactorsOf("a(b)[]")
	count, seven := impl.CountMatched(2)
	expect(t, "trees", "( 0 (a[b]) 0 [a (b) []] 0 8 0", core, four, full, five, factors, six, count, seven)
}

func TestPartners(t *testing.T) {
	for w, want := range map[string]string{
		"":         "[] 0",
		"a":        "[-1] 0",
		"(":        "[-2] 0",
		"]":        "[-2] 0",
		"()":       "[1 0] 0",
		"(]":       "[1 0] 0",
		"[)":       "[1 0] 0",
		"([)]":     "[3 2 1 0] 0",
		")(":       "[-2 -2] 0",
		")()(":     "[-2 2 1 -2] 0",
		"(()":      "[-2 2 1] 0",
		"())":      "[1 0 -2] 0",
		"[a]]b[(b": "[2 -1 0 -2 -1 -2 -2 -1] 0",
		"(()a)[b]": "[4 2 1 -1 0 7 -1 5] 0",
	} {
		partners, code := impl.PartnersOf(w)
		expect(t, w, want, partners, code)
	}
	for _, w := range sampleWords() {
		partners, code := impl.PartnersOf(w)
		expect(t, w, told(partnersByBalance(w), 0), partners, code)
	}
}

func TestPending(t *testing.T) {
	for w, want := range map[string]string{
		"": "0 0 0", "ab": "0 0 0", "(": "0 1 0", "]": "1 0 0", ")](a": "2 1 0", "[()])[([": "1 3 0", "())a)": "2 0 0",
		strings.Repeat("]", 60): "60 0 0", strings.Repeat("[", 60): "0 60 0",
	} {
		returns, calls, code := impl.PendingOf(w)
		expect(t, w, want, returns, calls, code)
	}
	for _, w := range sampleWords() {
		core := coreByCancelling(w)
		firstCall := strings.IndexAny(core+"(", "([")
		returns, calls, code := impl.PendingOf(w)
		expect(t, w, told(firstCall, len(core)-firstCall, 0), returns, calls, code)
	}
}

func TestMatched(t *testing.T) {
	for _, w := range sampleWords() {
		matched, code := impl.IsMatched(w)
		expect(t, w, told(coreByCancelling(w) == "", 0), matched, code)
	}
}

func TestDepths(t *testing.T) {
	for w, want := range map[string]string{
		"":         "[0] 0 0 0",
		"a":        "[0 0] 0 0 0",
		")":        "[0 0] 0 0 0",
		"(":        "[0 1] 0 1 0",
		"(a[b]":    "[0 1 1 2 2 1] 0 2 0",
		"))(":      "[0 0 0 1] 0 1 0",
		"(]])[[a)": "[0 1 0 0 0 1 2 2 1] 0 2 0",
	} {
		depths, one := impl.DepthsOf(w)
		depth, two := impl.DepthOf(w)
		expect(t, w, want, depths, one, depth, two)
	}
	for _, w := range sampleWords() {
		var want []int64
		for end := range len(w) + 1 {
			core := coreByCancelling(w[:end])
			want = append(want, int64(strings.Count(core, "(")+strings.Count(core, "[")))
		}
		depths, one := impl.DepthsOf(w)
		depth, two := impl.DepthOf(w)
		expect(t, w, told(want, 0, slices.Max(want), 0), depths, one, depth, two)
	}
}

func TestTurnedWords(t *testing.T) {
	for w, want := range map[string]string{
		"": " 0", "(": ") 0", "]": "[ 0", "ab": "ba 0", "(a[b]": "[b]a) 0", "([": "]) 0", "(]": "[) 0", ")a(b": "b)a( 0",
	} {
		turned, code := impl.TurnWord(w)
		expect(t, w, want, turned, code)
	}
	for _, w := range sampleWords() {
		turned, one := impl.TurnWord(w)
		again, two := impl.TurnWord(turned)
		expect(t, w, told(w, 0, 0), again, one, two)
		checkTurnedPlaces(t, w, turned)
	}
}

// checkTurnedPlaces checks that a word is matched at the turned places.
func checkTurnedPlaces(t *testing.T, w, turned string) {
	t.Helper()
	last := int64(len(w) - 1)
	want := partnersByBalance(w)
	slices.Reverse(want)
	for i, partner := range want {
		if partner >= 0 {
			want[i] = last - partner
		}
	}
	partners, code := impl.PartnersOf(turned)
	expect(t, w+" turned", told(want, 0), partners, code)
}
