package tests

import (
	"fmt"
	"math"
	"slices"
	"strings"
	"testing"

	"loop.example/g01145/impl"
)

func TestOppositeChecker(t *testing.T) {
	for _, c := range sampleCheckers() {
		want := copied(c)
		for state := range want.Accept {
			want.Accept[state] = !want.Accept[state]
		}
		opposite, one := impl.OppositeChecker(c)
		expectChecker(t, "OppositeChecker", impl.CheckerText(want), opposite, one)
		again, two := impl.OppositeChecker(opposite)
		expectChecker(t, "the opposite of the opposite", impl.CheckerText(c), again, two)
		expectTakes(t, "OppositeChecker", opposite, shortWords(), func(w string) bool { return !takesByPlaces(c, w) })
	}
}

// smallCheckers returns checkers of which any two have a product.
func smallCheckers() []impl.Checker {
	l := lottery(17)
	return []impl.Checker{
		impl.MatchedChecker(), impl.KindsChecker(), evenChecker(1, 1, 0, 0), l.checker(6, 8),
		l.checker(2, 3), l.checker(3, 1), l.checker(1, 4), l.checker(4, 2),
	}
}

func TestBothAndEither(t *testing.T) {
	for _, c := range smallCheckers() {
		for _, d := range smallCheckers() {
			both, one := impl.BothCheckers(c, d)
			either, two := impl.EitherCheckers(c, d)
			expect(t, "codes", "0 0 true true", one, two, impl.ValidChecker(both), impl.ValidChecker(either))
			checkPairs(t, c, d, both, func(a, b bool) bool { return a && b })
			checkPairs(t, c, d, either, func(a, b bool) bool { return a || b })
			words := randomWords(1)
			expectTakes(t, "both", both, words, func(w string) bool { return takesByPlaces(c, w) && takesByPlaces(d, w) })
			expectTakes(t, "either", either, words, func(w string) bool { return takesByPlaces(c, w) || takesByPlaces(d, w) })
		}
	}
}

// productByPairs makes a product pair by pair; it may be too large.
func productByPairs(c, d impl.Checker, accepting func(a, b bool) bool) impl.Checker {
	n, m := int64(len(d.Accept)), d.Stack
	product := impl.Checker{Stack: c.Stack * m, Start: c.Start*n + d.Start}
	for s := range c.Accept {
		for u := range d.Accept {
			product.Accept = append(product.Accept, accepting(c.Accept[s], d.Accept[u]))
			var calls []impl.Push
			var returns [][]int64
			var inner []int64
			for kind := range 2 {
				a, b := c.Call[s][kind], d.Call[u][kind]
				calls = append(calls, impl.Push{To: a.To*n + b.To, Put: a.Put*m + b.Put})
				list := make([]int64, c.Stack*m+1)
				for x := range c.Stack {
					for y := range m {
						list[x*m+y] = c.Return[s][kind][x]*n + d.Return[u][kind][y]
					}
				}
				list[c.Stack*m] = c.Return[s][kind][c.Stack]*n + d.Return[u][kind][m]
				returns = append(returns, list)
				inner = append(inner, c.Inner[s][kind]*n+d.Inner[u][kind])
			}
			product.Call, product.Return, product.Inner = append(product.Call, calls), append(product.Return, returns), append(product.Inner, inner)
		}
	}
	return product
}

// checkPairs checks all moves of a product, also those of pairs to which no
// moves lead.
func checkPairs(t *testing.T, c, d, product impl.Checker, accepting func(a, b bool) bool) {
	t.Helper()
	if want := productByPairs(c, d, accepting); !impl.SameChecker(product, want) {
		t.Errorf("%v and %v: got %v, want %v", c, d, product, want)
	}
}

func TestProductsRunAsPairs(t *testing.T) {
	for _, c := range smallCheckers() {
		for _, d := range smallCheckers() {
			n, m := int64(len(d.Accept)), d.Stack
			both, _ := impl.BothCheckers(c, d)
			for _, w := range []string{"", "]a)", "([)]b(a)", ")(](a[b)[", strings.Repeat("([", 20) + strings.Repeat("]", 20)} {
				pairs, pairStack, _ := impl.RunOf(both, w)
				one, oneStack, _ := impl.RunOf(c, w)
				two, twoStack, _ := impl.RunOf(d, w)
				for i := range one {
					one[i] = one[i]*n + two[i]
				}
				for i := range oneStack {
					oneStack[i] = oneStack[i]*m + twoStack[i]
				}
				expect(t, w, told(one, oneStack), pairs, pairStack)
			}
		}
	}
}

func TestProductLimits(t *testing.T) {
	for size, want := range map[[4]int64]int64{
		{5, 8, 8, 10}: impl.OK, {40, 80, 1, 1}: impl.OK, {1, 1, 40, 80}: impl.OK, {2, 4, 20, 20}: impl.OK, {40, 1, 1, 80}: impl.OK,
		{6, 1, 7, 1}: impl.ErrLimit, {2, 1, 21, 1}: impl.ErrLimit, {40, 1, 2, 1}: impl.ErrLimit, {1, 9, 1, 9}: impl.ErrLimit, {1, 3, 1, 27}: impl.ErrLimit,
		{1, 80, 1, 2}: impl.ErrLimit, {5, 9, 8, 9}: impl.ErrLimit, {6, 8, 7, 10}: impl.ErrLimit, {40, 80, 40, 80}: impl.ErrLimit,
	} {
		c, d := evenChecker(size[0], size[1], size[0]-1, size[1]-1), evenChecker(size[2], size[3], size[2]-1, size[3]-1)
		both, one := impl.BothCheckers(c, d)
		either, two := impl.EitherCheckers(c, d)
		if want != impl.OK {
			expectError(t, fmt.Sprint("both ", size), want, one, both)
			expectError(t, fmt.Sprint("either ", size), want, two, either)
			continue
		}
		checkPairs(t, c, d, both, func(a, b bool) bool { return a && b })
		checkPairs(t, c, d, either, func(a, b bool) bool { return a || b })
	}
}

func TestNothingIsMadeOfBrokenCheckers(t *testing.T) {
	largest := evenChecker(impl.MaxStates, impl.MaxStack, 0, 0)
	for _, c := range brokenCheckers() {
		opposite, one := impl.OppositeChecker(c)
		expectError(t, "OppositeChecker", impl.ErrInvalid, one, opposite)
		used, two := impl.UsedStates(c)
		expectError(t, "UsedStates", impl.ErrInvalid, two, used)
		trimmed, three := impl.TrimChecker(c)
		expectError(t, "TrimChecker", impl.ErrInvalid, three, trimmed)
		for _, d := range []impl.Checker{impl.MatchedChecker(), largest, c} { // invalid comes ahead of the limit
			for _, pair := range [][2]impl.Checker{{c, d}, {d, c}} {
				both, four := impl.BothCheckers(pair[0], pair[1])
				expectError(t, "BothCheckers", impl.ErrInvalid, four, both)
				either, five := impl.EitherCheckers(pair[0], pair[1])
				expectError(t, "EitherCheckers", impl.ErrInvalid, five, either)
			}
		}
	}
}

func TestMatchedChecker(t *testing.T) {
	want := "checker 3 2 0\nyes 1 0 1 0 2 2 2 2 2 2 0 0\nno 1 1 1 1 0 1 2 0 1 2 1 1\nno 2 0 2 0 2 2 2 2 2 2 2 2\n"
	expectChecker(t, "MatchedChecker", want, impl.MatchedChecker(), impl.OK)
	expectTakes(t, "MatchedChecker", impl.MatchedChecker(), sampleWords(), func(w string) bool { return coreByCancelling(w) == "" })
}

func TestKindsChecker(t *testing.T) {
	want := "checker 2 2 0\nyes 0 0 0 1 0 1 0 1 0 0 0 0\nno 1 0 1 1 1 1 1 1 1 1 1 1\n"
	expectChecker(t, "KindsChecker", want, impl.KindsChecker(), impl.OK)
	expectTakes(t, "KindsChecker", impl.KindsChecker(), sampleWords(), func(w string) bool {
		for i, partner := range partnersByBalance(w) {
			if isCall(w[i]) && partner >= 0 && (w[i] == '(') != (w[partner] == ')') {
				return false
			}
		}
		return true
	})
}

func TestDepthChecker(t *testing.T) {
	for most, want := range []string{
		"checker 2 1 0\nyes 1 0 1 0 0 0 0 0 0 0\nno 1 0 1 0 1 1 1 1 1 1\n",
		"checker 3 1 0\nyes 1 0 1 0 0 0 0 0 0 0\nyes 2 0 2 0 0 0 0 0 1 1\nno 2 0 2 0 2 2 2 2 2 2\n",
		"checker 4 1 0\nyes 1 0 1 0 0 0 0 0 0 0\nyes 2 0 2 0 0 0 0 0 1 1\nyes 3 0 3 0 1 1 1 1 2 2\nno 3 0 3 0 3 3 3 3 3 3\n",
	} {
		c, code := impl.DepthChecker(int64(most))
		expectChecker(t, "DepthChecker", want, c, code)
	}
	for most := range 10 {
		c, code := impl.DepthChecker(int64(most))
		expect(t, "states and marks", told(most+2, 1, 0, 0), len(c.Accept), c.Stack, c.Start, code)
		expectTakes(t, "DepthChecker", c, sampleWords(), func(w string) bool { return depthByCount(w) <= most })
	}
	for _, most := range farNumbers() {
		if most < 0 || most > 9 {
			c, code := impl.DepthChecker(most)
			expectError(t, "DepthChecker", impl.ErrRange, code, c)
		}
	}
}

// depthByCount counts open calls; a return that closes none is pending.
func depthByCount(w string) int {
	open, deepest := 0, 0
	for i := range len(w) {
		if isCall(w[i]) {
			open++
		} else if isReturn(w[i]) && open > 0 {
			open--
		}
		deepest = max(deepest, open)
	}
	return deepest
}

func TestCountChecker(t *testing.T) {
	for symbol, want := range map[string]string{
		"(": "checker 2 1 0\nyes 1 0 0 0 0 0 0 0 0 0\nno 0 0 1 0 1 1 1 1 1 1\n",
		"[": "checker 2 1 0\nyes 0 0 1 0 0 0 0 0 0 0\nno 1 0 0 0 1 1 1 1 1 1\n",
		")": "checker 2 1 0\nyes 0 0 0 0 1 1 0 0 0 0\nno 1 0 1 0 0 0 1 1 1 1\n",
		"]": "checker 2 1 0\nyes 0 0 0 0 0 0 1 1 0 0\nno 1 0 1 0 1 1 0 0 1 1\n",
		"a": "checker 2 1 0\nyes 0 0 0 0 0 0 0 0 1 0\nno 1 0 1 0 1 1 1 1 0 1\n",
		"b": "checker 2 1 0\nyes 0 0 0 0 0 0 0 0 0 1\nno 1 0 1 0 1 1 1 1 1 0\n",
	} {
		c, code := impl.CountChecker(symbol, 2)
		expectChecker(t, symbol, want, c, code)
	}
	words := append(shortWords(), strings.Repeat("a", impl.MaxStates), strings.Repeat("]", impl.MaxStates-1))
	for _, symbol := range strings.Split(symbols, "") {
		for _, modulus := range []int{1, 2, 3, 7, impl.MaxStates - 1, impl.MaxStates} {
			c, code := impl.CountChecker(symbol, int64(modulus))
			expect(t, "states and marks", told(modulus, 1, 0, 0), len(c.Accept), c.Stack, c.Start, code)
			expectTakes(t, symbol, c, words, func(w string) bool { return strings.Count(w, symbol)%modulus == 0 })
		}
	}
}

func TestCountCheckerRange(t *testing.T) {
	for _, symbol := range append(noWords(), "", "ab", "([", "()", "aa", ")]", "([)]ab", "b(") {
		for _, modulus := range []int64{-1, 0, 1, 2, impl.MaxStates, impl.MaxStates + 1} {
			c, code := impl.CountChecker(symbol, modulus)
			expectError(t, symbol[:min(len(symbol), 20)], impl.ErrRange, code, c)
		}
	}
	for _, modulus := range []int64{math.MinInt64, -40, -1, 0, impl.MaxStates + 1, 1 << 32, math.MaxInt64} {
		c, code := impl.CountChecker("a", modulus)
		expectError(t, "the modulus", impl.ErrRange, code, c)
	}
}

// usedByRounds adds states as long as there are new ones.
func usedByRounds(c impl.Checker) []int64 {
	used := []int64{c.Start}
	for before := 0; before < len(used); {
		before = len(used)
		for _, state := range slices.Clone(used) {
			for kind := range 2 {
				used = append(used, c.Call[state][kind].To, c.Inner[state][kind])
				used = append(used, c.Return[state][kind]...)
			}
		}
		slices.Sort(used)
		used = slices.Compact(used)
	}
	return used
}

func TestUsedStatesAndTrim(t *testing.T) {
	l := lottery(23)
	list := sampleCheckers()
	for range 100 {
		c := evenChecker(8, 2, 0, 1)
		numbers := numbersIn(&c)
		for range 10 {
			number := numbers[l.below(int64(len(numbers)))]
			*number.at = l.below(number.count)
		}
		list = append(list, c)
	}
	for _, c := range list {
		want := usedByRounds(c)
		used, one := impl.UsedStates(c)
		expect(t, "UsedStates", told(want, 0), used, one)
		trimmed, two := impl.TrimChecker(c)
		if two != impl.OK || !impl.ValidChecker(trimmed) {
			t.Fatalf("%v: got the code %d and %v", c, two, trimmed)
		}
		checkTrimmed(t, c, trimmed, want)
	}
}

// checkTrimmed checks each move of each state.
func checkTrimmed(t *testing.T, c, trimmed impl.Checker, used []int64) {
	t.Helper()
	number := func(state int64) int64 { return int64(slices.Index(used, state)) }
	want := impl.Checker{Stack: c.Stack, Start: number(c.Start)}
	for _, state := range used {
		row := copied(c)
		want.Accept = append(want.Accept, c.Accept[state])
		for kind := range 2 {
			row.Call[state][kind].To = number(row.Call[state][kind].To)
			row.Inner[state][kind] = number(row.Inner[state][kind])
			for mark, to := range row.Return[state][kind] {
				row.Return[state][kind][mark] = number(to)
			}
		}
		want.Call = append(want.Call, row.Call[state])
		want.Return = append(want.Return, row.Return[state])
		want.Inner = append(want.Inner, row.Inner[state])
	}
	expectChecker(t, "TrimChecker", impl.CheckerText(want), trimmed, impl.OK)
}

func TestEachMoveUsesItsState(t *testing.T) {
	whole := evenChecker(3, 3, 1, 0)
	used, one := impl.UsedStates(whole)
	trimmed, two := impl.TrimChecker(whole)
	expect(t, "the start alone", "[1] 0 0", used, one, two)
	expectChecker(t, "the start alone", "checker 1 3 0\nno 0 0 0 0 0 0 0 0 0 0 0 0 0 0\n", trimmed, impl.OK)
	for state := range 3 {
		for kind := range 2 {
			for _, to := range []int64{0, 2} {
				want := told([]int64{1}, 0)
				if state == 1 {
					want = told(slices.Sorted(slices.Values([]int64{1, to})), 0)
				}
				for _, at := range movesOf(&whole, state, kind) {
					*at = to
					used, code := impl.UsedStates(whole)
					expect(t, "one move", want, used, code)
					*at = 1
				}
			}
		}
	}
}

// movesOf returns where the moves of a state lead, whatever lies on the stack.
func movesOf(c *impl.Checker, state, kind int) []*int64 {
	list := []*int64{&c.Call[state][kind].To, &c.Inner[state][kind]}
	for mark := range c.Return[state][kind] {
		list = append(list, &c.Return[state][kind][mark])
	}
	return list
}

func TestTrimmedProduct(t *testing.T) {
	both, one := impl.BothCheckers(impl.MatchedChecker(), impl.KindsChecker())
	trimmed, two := impl.TrimChecker(both)
	expectChecker(t, "all pairs are used", impl.CheckerText(both), trimmed, two)
	deep, three := impl.DepthChecker(2)
	pairs, four := impl.BothCheckers(deep, deep)
	used, five := impl.UsedStates(pairs)
	expect(t, "equal depths", "0 0 0 0 [0 5 10 15] 0", one, two, three, four, used, five)
	trimmed, two = impl.TrimChecker(pairs)
	expectChecker(t, "equal depths", impl.CheckerText(deep), trimmed, two)
}
