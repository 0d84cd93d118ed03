package tests

import (
	"math"
	"strings"
	"testing"

	"loop.example/g01145/impl"
)

// countsByFactors counts matched words by their first factors.
func countsByFactors() [impl.MaxCounted + 1]int64 {
	var counts [impl.MaxCounted + 1]int64
	counts[0] = 1
	for length := 1; length <= impl.MaxCounted; length++ {
		counts[length] = 2 * counts[length-1]
		for body := 0; body <= length-2; body++ {
			counts[length] += 4 * counts[body] * counts[length-2-body]
		}
	}
	return counts
}

func TestCountMatched(t *testing.T) {
	for length := range 7 {
		count, code := impl.CountMatched(int64(length))
		expect(t, "CountMatched", told(len(matchedOnly(wordsOf(length))), 0), count, code)
	}
	for length, want := range countsByFactors() {
		count, code := impl.CountMatched(int64(length))
		expect(t, "CountMatched", told(want, 0), count, code)
	}
}

func TestCountingRange(t *testing.T) {
	for _, n := range farNumbers() {
		if n >= 0 && n <= impl.MaxCounted {
			continue
		}
		count, one := impl.CountMatched(n)
		expectError(t, "CountMatched", impl.ErrRange, one, count)
		for _, k := range []int64{math.MinInt64, -1, 0, 1, math.MaxInt64} {
			w, two := impl.MatchedAt(n, k)
			expectError(t, "MatchedAt", impl.ErrRange, two, w)
		}
	}
	for length, count := range countsByFactors() {
		for _, k := range []int64{math.MinInt64, -count, -1, count, count + 1, math.MaxInt64} {
			w, code := impl.MatchedAt(int64(length), k)
			expectError(t, "MatchedAt", impl.ErrRange, code, w)
		}
	}
}

func TestMatchedWordsAreNumberedInOrder(t *testing.T) {
	for length := range 7 {
		for k, want := range matchedOnly(wordsOf(length)) {
			w, one := impl.MatchedAt(int64(length), int64(k))
			rank, two := impl.RankMatched(want)
			expect(t, "number", told(want, 0, k, 0), w, one, rank, two)
		}
	}
}

func TestEndsOfLengths(t *testing.T) {
	for length, count := range countsByFactors() {
		first := strings.Repeat("(", length/2) + strings.Repeat(")", length/2) + strings.Repeat("a", length%2)
		last := strings.Repeat("b", length)
		one, a := impl.MatchedAt(int64(length), 0)
		two, b := impl.MatchedAt(int64(length), count-1)
		expect(t, "ends", told(first, 0, last, 0), one, a, two, b)
		low, c := impl.RankMatched(first)
		high, d := impl.RankMatched(last)
		expect(t, "ranks", told(0, 0, count-1, 0), low, c, high, d)
	}
}

// beforeInOrder reports whether u is before w, both having the same length.
func beforeInOrder(u, w string) bool {
	for i := range len(u) {
		if u[i] != w[i] {
			return strings.IndexByte(symbols, u[i]) < strings.IndexByte(symbols, w[i])
		}
	}
	return false
}

func TestNumbersOfLongWords(t *testing.T) {
	for length, count := range countsByFactors() {
		for part := range int64(200) {
			k := count / 200 * part
			w, one := impl.MatchedAt(int64(length), k)
			rank, two := impl.RankMatched(w)
			expect(t, w, told(length, k, "", 0, 0), len(w), rank, coreByCancelling(w), one, two)
			if k+1 < count {
				next, three := impl.MatchedAt(int64(length), k+1)
				expect(t, w+" and "+next, "true 0", beforeInOrder(w, next), three)
			}
		}
	}
}

func TestRankMatched(t *testing.T) {
	empty, one := impl.RankMatched("")
	pair, two := impl.RankMatched("()")
	last, three := impl.RankMatched("bb")
	expect(t, "RankMatched", "0 0 0 0 7 0", empty, one, pair, two, last, three)
	for _, w := range []string{"(", ")", ")(", "([]", strings.Repeat("(", 20), strings.Repeat("]", 20)} {
		rank, code := impl.RankMatched(w)
		expectError(t, w, impl.ErrState, code, rank)
	}
	for _, w := range []string{ // the limit comes ahead of the state
		strings.Repeat("a", 21), strings.Repeat("(", 21), strings.Repeat("()", 11), strings.Repeat("]", 60), strings.Repeat("b", 60),
	} {
		rank, code := impl.RankMatched(w)
		expectError(t, w, impl.ErrLimit, code, rank)
	}
}
