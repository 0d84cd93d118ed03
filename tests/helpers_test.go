package tests

import (
	"fmt"
	"math"
	"slices"
	"strings"
	"testing"

	"loop.example/g01145/impl"
)

const symbols = "([)]ab"

// told writes results in one line; a nil slice and an empty one look the same.
func told(results ...any) string {
	return strings.TrimSuffix(fmt.Sprintln(results...), "\n")
}

func expect(t *testing.T, name, want string, results ...any) {
	t.Helper()
	if got := told(results...); got != want {
		t.Errorf("%s: got %s, want %s", name, got, want)
	}
}

// expectError is for results that come with an error.
func expectError(t *testing.T, name string, want, got int64, results ...any) {
	t.Helper()
	if got != want {
		t.Errorf("%s: got the code %d, want %d", name, got, want)
	}
	for _, r := range results {
		switch s := told(r); s {
		case "", "0", "false", "[]", told(impl.Checker{}), told(impl.Choices{}), told(impl.Algebra{}), told(impl.Context{}),
			told(impl.Query{}), told(impl.Watcher{}), told(impl.Rewriter{}), told(impl.TreeEdit{}), told(impl.Program{}), told(impl.Place{}),
			told(impl.Deed{}), told(impl.Plant{}):
		default:
			t.Errorf("%s: got %s together with an error", name, s)
		}
	}
}

// wordsOf returns all words of a length, in the order of words.
func wordsOf(length int) []string {
	words := []string{""}
	for range length {
		var longer []string
		for _, w := range words {
			for _, s := range symbols {
				longer = append(longer, w+string(s))
			}
		}
		words = longer
	}
	return words
}

// randomWords returns words of all lengths that words may have, always the same.
func randomWords(each int) []string {
	var words []string
	state := uint64(2026)
	for length := 0; length <= impl.MaxWord; length++ {
		for range each {
			var b strings.Builder
			for range length {
				state = state*6364136223846793005 + 1442695040888963407
				b.WriteByte(symbols[(state>>33)%6])
			}
			words = append(words, b.String())
		}
	}
	return words
}

// sampleWords returns all short words and some of each length.
func sampleWords() []string {
	var words []string
	for length := range 6 {
		words = append(words, wordsOf(length)...)
	}
	words = append(words, randomWords(20)...)
	half := impl.MaxWord / 2
	for _, pair := range []string{"()", "[]", "(]", "[)", ")(", "ab", "(a", "a]", "(["} {
		words = append(words, strings.Repeat(pair, half))
	}
	return append(words,
		strings.Repeat("(", half)+strings.Repeat("]", half),
		strings.Repeat(")", half)+strings.Repeat("[", half),
		strings.Repeat("(", impl.MaxWord), strings.Repeat("]", impl.MaxWord))
}

// noWords returns texts that are no words.
func noWords() []string {
	long := strings.Repeat("a", impl.MaxWord)
	return []string{
		"c", "A", "B", "{", "}", "<", ">", "0", "-", " ", "\n", "\x00", "\xff", "é", "（",
		"a ", " a", "a\n", "(a) ", "(c)", "ab(]c", "\x00(", "()\x80", "`", "'", "*", "+", ",", "Z", "\\", "^",
		long + "a", long + "c", long[1:] + "c", "c" + long[1:], long + long,
		strings.Repeat("()", impl.MaxWord/2) + "]", strings.Repeat("(", impl.MaxWord+1),
		strings.Repeat("(", 10000), strings.Repeat("ab", 500000), strings.Repeat("\xfe", 1000000),
	}
}

// textsWithOneChange returns the beginnings and ends of a text, and those that come
// of it by leaving a letter or a line out, or by putting one in or in place of
// another one.
func textsWithOneChange(text, letters string) []string {
	var list []string
	for i := range len(text) {
		list = append(list, text[:i], text[i:], text[:i]+text[i+1:])
		for _, letter := range letters {
			list = append(list, text[:i]+string(letter)+text[i:], text[:i]+string(letter)+text[i+1:])
		}
	}
	lines := strings.SplitAfter(text, "\n")
	for i, line := range lines {
		list = append(list, strings.Join(slices.Delete(slices.Clone(lines), i, i+1), ""), strings.Join(slices.Insert(slices.Clone(lines), i, line), ""))
	}
	return list
}

// farNumbers returns numbers in and far outside of all ranges.
func farNumbers() []int64 {
	list := []int64{math.MinInt64, math.MinInt64 + 1, math.MinInt32, -1000000, math.MaxInt32, math.MaxUint32, math.MaxInt64 - 1, math.MaxInt64}
	for n := int64(-3); n <= 2*impl.MaxWord+3; n++ {
		list = append(list, n)
	}
	return list
}

func isCall(s byte) bool   { return s == '(' || s == '[' }
func isReturn(s byte) bool { return s == ')' || s == ']' }

// partnersByBalance finds the return of a call as the first place behind which
// as many returns as calls have been read from the call on.
func partnersByBalance(w string) []int64 {
	partners := make([]int64, len(w))
	for i := range len(w) {
		partners[i] = -2
		if !isCall(w[i]) && !isReturn(w[i]) {
			partners[i] = -1
		}
	}
	for i := range len(w) {
		if !isCall(w[i]) {
			continue
		}
		balance := 0
		for k := i; k < len(w); k++ {
			if isCall(w[k]) {
				balance++
			} else if isReturn(w[k]) {
				balance--
			}
			if balance == 0 {
				partners[i], partners[k] = int64(k), int64(i)
				break
			}
		}
	}
	return partners
}

// coreByCancelling takes away inner letters, and calls next to returns.
func coreByCancelling(w string) string {
	w = strings.NewReplacer("a", "", "b", "").Replace(w)
	for {
		shorter := w
		for _, pair := range []string{"()", "(]", "[)", "[]"} {
			shorter = strings.ReplaceAll(shorter, pair, "")
		}
		if shorter == w {
			return w
		}
		w = shorter
	}
}

func matchedOnly(words []string) []string {
	return slices.DeleteFunc(slices.Clone(words), func(w string) bool { return coreByCancelling(w) != "" })
}
