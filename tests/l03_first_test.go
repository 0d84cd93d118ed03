package tests

import (
	"math"
	"strings"
	"testing"

	"loop.example/g01145/impl"
)

func TestChapter3Example(t *testing.T) {
	c := impl.MatchedChecker()
	opposite, _ := impl.OppositeChecker(c)
	first, one := impl.FirstTaken(opposite)
	none, two := impl.MatchedBetween(c, 0, 1)
	unlike, three := impl.FirstDifference(impl.KindsChecker(), c)
	count, four := impl.CountTaken(c, 2)
	expect(t, "example", "( 0  6 ( 0 8 0", first, one, none, two, unlike, three, count, four)
}

// asChoices returns a checker with each move in a list; it may be too large to
// be valid.
func asChoices(c impl.Checker) impl.Choices {
	m := impl.Choices{Stack: c.Stack, Starts: []int64{c.Start}, Accept: c.Accept}
	for state := range c.Accept {
		calls, returns, inner := make([][]impl.Push, 2), make([][][]int64, 2), make([][]int64, 2)
		for kind := range 2 {
			calls[kind], inner[kind] = []impl.Push{c.Call[state][kind]}, []int64{c.Inner[state][kind]}
			for _, to := range c.Return[state][kind] {
				returns[kind] = append(returns[kind], []int64{to})
			}
		}
		m.Call, m.Return, m.Inner = append(m.Call, calls), append(m.Return, returns), append(m.Inner, inner)
	}
	return m
}

// wordTable has first words by the state in which they begin and the one to
// which they lead. Behind the states there are two goals: an accepting state
// without pending returns on the way, and an accepting one.
type wordTable struct {
	m       impl.Choices
	words   map[[2]int64]string
	longer  map[[2]int64]bool
	changed bool
}

// add joins parts, if there is a word for each of them, to a word from a state
// to another one or a goal.
func (k *wordTable) add(from, to int64, front string, body [2]int64, middle string, last [2]int64) {
	key := [2]int64{from, to}
	first, one := k.words[body]
	second, two := k.words[last]
	if !one && !k.longer[body] || !two && !k.longer[last] {
		return
	}
	word := front + first + middle + second
	old, found := k.words[key]
	switch {
	case !one || !two || len(word) > impl.MaxWord:
		if !found && !k.longer[key] {
			k.longer[key], k.changed = true, true
		}
	case !found || compareWords(word, old) < 0:
		k.words[key], k.changed = word, true
	}
}

// improve looks at all moves from a state. The stretch of a state to itself
// stands for nothing.
func (k *wordTable) improve(s int64) {
	n := int64(len(k.m.Accept))
	nothing := [2]int64{s, s}
	for kind := range 2 {
		call, back, letter := symbols[kind:kind+1], symbols[2+kind:3+kind], symbols[4+kind:5+kind]
		for _, to := range k.m.Inner[s][kind] {
			k.add(s, to, letter, nothing, "", nothing)
		}
		for _, to := range k.m.Return[s][kind][k.m.Stack] {
			k.add(s, n+1, back, [2]int64{to, n + 1}, "", nothing)
		}
		for _, push := range k.m.Call[s][kind] {
			k.add(s, n, call, [2]int64{push.To, n}, "", nothing)
			for end := range n {
				for last := range 2 {
					for _, to := range k.m.Return[end][last][push.Put] {
						k.add(s, to, call, [2]int64{push.To, end}, symbols[2+last:3+last], nothing)
					}
				}
			}
		}
	}
	k.add(s, n+1, "", [2]int64{s, n}, "", nothing)
	for middle := range n {
		for to := range n + 2 {
			k.add(s, to, "", [2]int64{s, middle}, "", [2]int64{middle, to})
		}
	}
}

// firstsByRounds improves words as long as one of them changes.
func firstsByRounds(m impl.Choices) *wordTable {
	k := &wordTable{m: m, words: map[[2]int64]string{}, longer: map[[2]int64]bool{}, changed: true}
	n := int64(len(m.Accept))
	for s := range n {
		k.words[[2]int64{s, s}] = ""
		if m.Accept[s] {
			k.words[[2]int64{s, n}] = ""
		}
	}
	for k.changed {
		k.changed = false
		for s := range n {
			k.improve(s)
		}
	}
	return k
}

// told returns what a function should return for a stretch.
func (k *wordTable) told(from, to int64) string {
	word, found := k.words[[2]int64{from, to}]
	switch {
	case found:
		return told(word, impl.OK)
	case k.longer[[2]int64{from, to}]:
		return told("", impl.ErrLimit)
	}
	return told("", impl.ErrNotFound)
}

// toldFirst returns what a function should return for the first word taken.
func (k *wordTable) toldFirst() string {
	goal := int64(len(k.m.Accept)) + 1
	least, found, longer := "", false, false
	for _, start := range k.m.Starts {
		word, one := k.words[[2]int64{start, goal}]
		longer = longer || k.longer[[2]int64{start, goal}]
		if one && (!found || compareWords(word, least) < 0) {
			least, found = word, true
		}
	}
	switch {
	case found:
		return told(least, impl.OK)
	case longer:
		return told("", impl.ErrLimit)
	}
	return told("", impl.ErrNotFound)
}

// sparseCheckers returns checkers most moves of which lead to one state.
func sparseCheckers() []impl.Checker {
	l := lottery(71)
	var list []impl.Checker
	for i := range int64(60) {
		c := evenChecker(3+i%4, 1+i%3, i%3, 0)
		c.Start, c.Accept[l.below(3)] = l.below(3), true
		numbers := numbersIn(&c)
		for range 4 + i%9 {
			number := numbers[l.below(int64(len(numbers)))]
			*number.at = l.below(number.count)
		}
		list = append(list, c)
	}
	return list
}

// searchedCheckers returns checkers in which the tests look for first words.
func searchedCheckers() []impl.Checker {
	list := append(sparseCheckers(), choiceCheckers()...)
	for _, c := range sampleCheckers() {
		if len(c.Accept) <= 6 {
			list = append(list, c)
		}
	}
	for depth := range int64(6) {
		list = append(list, deepChecker(depth+1, depth%3), doublingChecker(depth))
	}
	return list
}

// deepChecker takes just the word with depth calls "(", as many returns ")",
// and letters "b" behind these; its first words are made of so many symbols.
// The state from which letters are read is depth + 1.
func deepChecker(depth, letters int64) impl.Checker {
	end, dead := depth+1, depth+letters+3
	c := evenChecker(dead+1, 2, dead, 0)
	c.Start = 0
	for state := range depth {
		c.Call[state][0] = impl.Push{To: state + 1, Put: min(state, 1)}
	}
	returning := dead - 1
	for _, state := range []int64{depth, returning} {
		c.Return[state][0][0], c.Return[state][0][1] = end, returning
	}
	for letter := range letters {
		c.Inner[end+letter][1] = end + letter + 1
	}
	c.Accept[end+letters] = true
	return c
}

// doublingChecker has, from the state 3 * i to 3 * i + 1, a first matched word
// that has twice the one for i - 1 in it.
func doublingChecker(levels int64) impl.Checker {
	dead := 3*levels + 2
	c := evenChecker(dead+1, max(1, 2*levels), dead, 0)
	c.Inner[0][0] = 1
	for i := int64(1); i <= levels; i++ {
		begin, middle, inside := 3*i, 3*i+2, 3*(i-1)
		if i == levels {
			middle = 2 // no state of the least level stands between two words
		}
		c.Call[begin][0] = impl.Push{To: inside, Put: 2*i - 2}
		c.Return[inside+1][0][2*i-2] = middle
		c.Call[middle][0] = impl.Push{To: inside, Put: 2*i - 1}
		c.Return[inside+1][0][2*i-1] = begin + 1
	}
	c.Start, c.Accept[3*levels+1] = 3*levels, true
	return c
}

func TestMatchedBetweenAndReachedBy(t *testing.T) {
	codes := map[int64]int{}
	for _, c := range searchedCheckers() {
		table := firstsByRounds(asChoices(c))
		reached, code := impl.ReachedBy(c)
		want := make([][]int64, len(c.Accept))
		for s := range int64(len(c.Accept)) {
			for to := range int64(len(c.Accept)) {
				word, code := impl.MatchedBetween(c, s, to)
				codes[code]++
				expect(t, told(c, s, to), table.told(s, to), word, code)
				if code != impl.ErrNotFound {
					want[s] = append(want[s], to)
				}
				if code == impl.OK {
					summary, _ := impl.SummaryOf(c, word)
					expect(t, word, told(to), summary[s])
				}
			}
		}
		expect(t, told("ReachedBy", c), told(want, 0), reached, code)
	}
	if codes[impl.OK] < 100 || codes[impl.ErrNotFound] < 100 || codes[impl.ErrLimit] < 5 {
		t.Errorf("the codes are %v", codes)
	}
}

// TestNothingMatchedIsBefore looks at all short matched words.
func TestNothingMatchedIsBefore(t *testing.T) {
	matched := matchedOnly(append(shortWords()[:259], wordsOf(4)...))
	for _, c := range searchedCheckers() {
		for s := range c.Accept {
			found := map[int64]string{}
			for _, u := range matched {
				run, _ := runByPlaces(c, int64(s), nil, u)
				if _, old := found[run[len(u)]]; !old {
					found[run[len(u)]] = u
				}
			}
			for to := range int64(len(c.Accept)) {
				word, code := impl.MatchedBetween(c, int64(s), to)
				want, short := found[to]
				if short && (word != want || code != impl.OK) || !short && code == impl.OK && len(word) <= 4 {
					t.Fatalf("%v from %d to %d: got %q and the code %d, want %q", c, s, to, word, code, want)
				}
			}
		}
	}
}

func TestMatchedBetweenRange(t *testing.T) {
	for _, c := range []impl.Checker{impl.KindsChecker(), evenChecker(1, 1, 0, 0), evenChecker(impl.MaxStates, impl.MaxStack, 0, 0)} {
		last := int64(len(c.Accept)) - 1
		for _, state := range []int64{math.MinInt64, -2, -1, last + 1, last + 2, last + 3, 1 << 32, math.MaxInt64} {
			for _, pair := range [][2]int64{{state, 0}, {0, state}, {state, state}, {last, state}, {state, last}} {
				word, code := impl.MatchedBetween(c, pair[0], pair[1])
				expectError(t, "MatchedBetween", impl.ErrRange, code, word)
			}
		}
		word, code := impl.MatchedBetween(c, last, last)
		expect(t, "the last state", " 0", word, code)
	}
}

func TestFirstTakenAndIsEmpty(t *testing.T) {
	codes := map[int64]int{}
	for _, c := range searchedCheckers() {
		want := firstsByRounds(asChoices(c)).toldFirst()
		word, code := impl.FirstTaken(c)
		expect(t, told("FirstTaken", c), want, word, code)
		empty, one := impl.IsEmpty(c)
		expect(t, "IsEmpty", told(code == impl.ErrNotFound, 0), empty, one)
		codes[code]++
		if code == impl.OK && !takesByPlaces(c, word) {
			t.Errorf("%v does not take %q", c, word)
		}
	}
	if codes[impl.OK] < 50 || codes[impl.ErrNotFound] < 5 || codes[impl.ErrLimit] < 1 {
		t.Errorf("the codes are %v", codes)
	}
}

// firstOfShort returns the first word of a list for which a function is true.
func firstOfShort(words []string, is func(w string) bool) (string, bool) {
	for _, w := range words {
		if is(w) {
			return w, true
		}
	}
	return "", false
}

// expectFirst checks a first word by all shorter ones in the order of words.
func expectFirst(t *testing.T, name string, short []string, is func(w string) bool, word string, code int64) {
	t.Helper()
	want, found := firstOfShort(short, is)
	switch {
	case found && (word != want || code != impl.OK):
		t.Errorf("%s: got %q and the code %d, want %q", name, word, code, want)
	case !found && code == impl.OK && (len(word) <= len(short[len(short)-1]) || !is(word)):
		t.Errorf("%s: got %q, which is not it", name, word)
	}
}

func allShort() []string {
	var words []string
	for length := range 5 {
		words = append(words, wordsOf(length)...)
	}
	return words
}

func TestNothingTakenIsBefore(t *testing.T) {
	short := allShort()
	for _, c := range searchedCheckers() {
		word, code := impl.FirstTaken(c)
		expectFirst(t, told("FirstTaken", c), short, func(w string) bool { return takesByPlaces(c, w) }, word, code)
	}
}

func TestSymbolsHaveAnOrder(t *testing.T) {
	for i := range symbols {
		for k := i; k < len(symbols); k++ {
			c := evenChecker(2, 1, 0, 0)
			c.Accept[1] = true
			for _, s := range []byte{symbols[i], symbols[k]} {
				kind := symbolKind(s)
				switch {
				case isCall(s):
					c.Call[0][kind].To = 1
				case isReturn(s):
					c.Return[0][kind][1] = 1
				default:
					c.Inner[0][kind] = 1
				}
			}
			word, code := impl.FirstTaken(c)
			expect(t, "the first symbol", told(symbols[i:i+1], 0), word, code)
		}
	}
}

func TestKnownFirstWords(t *testing.T) {
	c := impl.KindsChecker()
	opposite, _ := impl.OppositeChecker(c)
	word, code := impl.FirstTaken(opposite)
	expect(t, "a return of the other kind", "(] 0", word, code)
	word, code = impl.FirstTaken(c)
	expect(t, "the empty word", " 0", word, code)
	word, code = impl.MatchedBetween(c, 0, 1)
	expect(t, "a return of the other kind", "(] 0", word, code)
	word, code = impl.MatchedBetween(c, 1, 0)
	expect(t, "nothing leads back", " 6", word, code)
	for modulus := int64(2); modulus <= 40; modulus += 19 {
		for _, symbol := range strings.Split(symbols, "") {
			count, _ := impl.CountChecker(symbol, modulus)
			count.Accept[0], count.Accept[modulus-1] = false, true
			word, code = impl.FirstTaken(count)
			expect(t, symbol, told(strings.Repeat(symbol, int(modulus)-1), 0), word, code)
		}
	}
}

// TestReturnsBehindPendingCallsMatchThem has a return that leads to an accepting
// state from where only the call in front of it leads, which it would match.
func TestReturnsBehindPendingCallsMatchThem(t *testing.T) {
	for kind := range 2 {
		c := evenChecker(4, 1, 3, 0)
		c.Start, c.Accept[2] = 0, true
		c.Call[0][kind].To, c.Return[1][kind][1] = 1, 2
		_, code := impl.FirstTaken(c)
		empty, one := impl.IsEmpty(c)
		expect(t, "the return alone", "6 true 0", code, empty, one)
		c.Inner[1][1] = 2
		word, code := impl.FirstTaken(c)
		expect(t, "a letter behind the return", told(symbols[kind:kind+1]+"b", 0), word, code)
		c.Return[1][kind][0] = 2
		word, code = impl.FirstTaken(c)
		expect(t, "the return that matches", told(symbols[kind:kind+1]+symbols[2+kind:3+kind], 0), word, code)
	}
}

// deepWord is what deepChecker takes.
func deepWord(depth, letters int64) string {
	return strings.Repeat("(", int(depth)) + strings.Repeat(")", int(depth)) + strings.Repeat("b", int(letters))
}

func TestLongestFirstWords(t *testing.T) {
	nothing := evenChecker(1, 1, 0, 0)
	for size, want := range map[[2]int64]int64{
		{30, 0}: impl.OK, {29, 2}: impl.OK, {29, 1}: impl.OK, {25, 10}: impl.OK, {30, 1}: impl.ErrLimit, {31, 0}: impl.ErrLimit,
		{29, 3}: impl.ErrLimit, {29, 4}: impl.ErrLimit, {32, 0}: impl.ErrLimit, {36, 0}: impl.ErrLimit, {33, 3}: impl.ErrLimit,
	} {
		c, text := deepChecker(size[0], size[1]), told(deepWord(size[0], size[1]), 0)
		if want != impl.OK {
			text = told("", want)
		}
		goal := size[0] + 1 + size[1]
		word, code := impl.FirstTaken(c)
		expect(t, told("FirstTaken", size), text, word, code)
		word, code = impl.MatchedBetween(c, 0, goal)
		expect(t, told("MatchedBetween", size), text, word, code)
		word, code = impl.FirstDifference(c, nothing)
		expect(t, told("FirstDifference", size), text, word, code)
		word, code = impl.FirstDifference(nothing, c)
		expect(t, told("FirstDifference", size), text, word, code)
		empty, one := impl.IsEmpty(c)
		equal, two := impl.AreEqual(c, nothing)
		reached, three := impl.ReachedBy(c)
		dead := int64(len(c.Accept)) - 1
		seen := []bool{}
		for _, state := range []int64{0, 1, goal, dead} {
			found := false
			for _, to := range reached[0] {
				found = found || to == state
			}
			seen = append(seen, found)
		}
		expect(t, told("what words lead to", size), "false 0 false 0 [true false true true] 0", empty, one, equal, two, seen, three)
	}
}

// TestFirstWordsWithoutEnd has first words of thousands of symbols.
func TestFirstWordsWithoutEnd(t *testing.T) {
	const levels = 12
	c := doublingChecker(levels)
	inner := "a"
	for i := range int64(levels + 1) {
		want := told("", impl.ErrLimit)
		if len(inner) <= impl.MaxWord {
			want = told(inner, 0)
		}
		word, code := impl.MatchedBetween(c, 3*i, 3*i+1)
		expect(t, told("MatchedBetween", i), want, word, code)
		inner = "(" + inner + ")(" + inner + ")"
	}
	word, one := impl.FirstTaken(c)
	empty, two := impl.IsEmpty(c)
	equal, three := impl.AreEqual(c, evenChecker(1, 1, 0, 0))
	expect(t, "FirstTaken", " 3 false 0 false 0", word, one, empty, two, equal, three)
}

// Found by trying many checkers: the first words that these take, as choices,
// have 60 symbols, and more.
const (
	sixtyText = "checker 5 4 0\nno 2 0 3 3 1 2 2 2 0 1 2 0 2 0 0 0\nno 1 0 2 2 0 3 2 3 2 0 0 4 3 3 1 1\n" +
		"no 0 1 0 1 0 2 1 2 0 0 3 2 2 2 2 2\nno 3 1 0 3 2 2 0 0 0 0 2 3 0 3 3 3\nyes 1 0 1 0 4 3 2 2 0 1 0 3 3 2 4 2\n"
	sixtyWord  = "(([())][[())([())]))[([())][[())([())])(([())][[())([())]))]"
	longerText = "checker 5 4 0\nno 0 3 0 3 2 3 4 3 2 2 4 2 0 3 3 0\nno 3 2 2 3 3 3 0 2 1 3 1 2 2 2 1 1\n" +
		"no 3 3 0 0 3 2 2 1 3 3 2 1 1 3 2 2\nno 1 0 1 0 2 1 1 2 1 2 0 1 2 3 3 3\nyes 4 3 3 0 3 3 3 2 1 1 0 2 0 2 4 1\n"
)

func TestFirstOfChoices(t *testing.T) {
	short := allShort()[:259]
	for _, m := range sampleChoices() {
		word, code := impl.FirstOfChoices(m)
		expect(t, told("FirstOfChoices", m), firstsByRounds(m).toldFirst(), word, code)
		expectFirst(t, told("FirstOfChoices", m), short, func(w string) bool { return takesByParts(m, w) }, word, code)
	}
	word, code := impl.FirstOfChoices(firstByThree())
	expect(t, "three starts", "[ 0", word, code)
	m := firstByThree()
	m.Starts = []int64{0}
	word, code = impl.FirstOfChoices(m)
	expect(t, "one start", "([ 0", word, code)
	m.Starts = nil
	word, code = impl.FirstOfChoices(m)
	expectError(t, "no start", impl.ErrNotFound, code, word)
	word, code = impl.FirstOfChoices(guessedReturn())
	expect(t, "a pending call", "( 0", word, code)
}

func TestLongestFirstWordsOfChoices(t *testing.T) {
	for text, want := range map[string]string{sixtyText: told(sixtyWord, 0), longerText: " 3"} {
		c, one := impl.ReadChecker(text)
		m, two := impl.ChoicesOf(c)
		table := firstsByRounds(m)
		word, code := impl.FirstOfChoices(m)
		expect(t, "FirstOfChoices", told(want, 0, 0), word, code, one, two)
		expect(t, "the tests", want, table.toldFirst())
		word, code = impl.FirstTaken(c)
		expect(t, "FirstTaken", want, word, code)
	}
}

func TestFirstDifferenceAndAreEqual(t *testing.T) {
	t.Parallel()
	l := lottery(73)
	short, list := allShort(), searchedCheckers()
	equals := 0
	for i, c := range list {
		for range 5 {
			d := list[l.below(int64(len(list)))]
			if i%4 == 0 {
				d, _ = impl.TrimChecker(c)
			}
			if len(c.Accept)*len(d.Accept) > 30 {
				continue
			}
			unlike := productByPairs(c, d, func(a, b bool) bool { return a != b })
			word, code := impl.FirstDifference(c, d)
			expect(t, told("FirstDifference", c, d), firstsByRounds(asChoices(unlike)).toldFirst(), word, code)
			differ := func(w string) bool { return takesByPlaces(c, w) != takesByPlaces(d, w) }
			expectFirst(t, told("FirstDifference", c, d), short[:259], differ, word, code)
			again, one := impl.FirstDifference(d, c)
			equal, two := impl.AreEqual(c, d)
			expect(t, "the other way round", told(word, code, code == impl.ErrNotFound, 0), again, one, equal, two)
			if equal {
				equals++
			}
		}
	}
	if equals < 20 {
		t.Errorf("%d are equal", equals)
	}
}

func TestOppositesDifferAtOnce(t *testing.T) {
	for _, c := range append(sampleCheckers(), sparseCheckers()...) {
		if len(c.Accept) > 8 {
			continue
		}
		opposite, _ := impl.OppositeChecker(c)
		word, one := impl.FirstDifference(c, opposite)
		equal, two := impl.AreEqual(c, opposite)
		_, three := impl.FirstDifference(c, c)
		same, four := impl.AreEqual(c, c)
		expect(t, told(c), " 0 false 0 6 true 0", word, one, equal, two, three, same, four)
	}
}

func TestPairLimits(t *testing.T) {
	for size, want := range map[[4]int64]int64{
		{8, 80, 8, 80}: impl.OK, {2, 3, 32, 2}: impl.OK, {32, 1, 2, 80}: impl.OK, {16, 1, 4, 1}: impl.OK, {40, 80, 1, 80}: impl.OK, {21, 1, 3, 1}: impl.OK,
		{5, 1, 13, 1}: impl.ErrLimit, {13, 1, 5, 1}: impl.ErrLimit, {40, 1, 2, 1}: impl.ErrLimit, {2, 1, 33, 1}: impl.ErrLimit,
		{9, 1, 8, 1}: impl.ErrLimit, {40, 80, 40, 80}: impl.ErrLimit, {22, 1, 3, 1}: impl.ErrLimit,
	} {
		c, d := evenChecker(size[0], size[1], 0, 0), evenChecker(size[2], size[3], size[2]-1, 0)
		c.Start, c.Accept[size[0]-1] = size[0]-1, true // takes the empty word alone, if there are two states
		d.Accept[0] = true                             // takes nothing, if there are two states
		word, one := impl.FirstDifference(c, d)
		equal, two := impl.AreEqual(c, d)
		if want != impl.OK {
			expectError(t, told(size), want, one, word)
			expectError(t, told(size), want, two, equal)
			continue
		}
		first := ""
		if size[2] == 1 {
			first = "("
		}
		expect(t, told(size), told(first, 0, false, 0), word, one, equal, two)
		equal, two = impl.AreEqual(c, evenChecker(1, size[3], 0, 0))
		_, one = impl.FirstDifference(d, evenChecker(1, size[3], 0, 0))
		expect(t, told(size), told(false, 0, size[2] > 1), equal, two, one == impl.ErrNotFound)
	}
}

func TestCountTaken(t *testing.T) {
	l := lottery(79)
	for _, c := range searchedCheckers() {
		for length := range int64(6) {
			if length == 5 && l.below(6) > 0 {
				continue
			}
			want := 0
			for _, w := range wordsOf(int(length)) {
				if takesByPlaces(c, w) {
					want++
				}
			}
			count, code := impl.CountTaken(c, length)
			expect(t, told(c, length), told(want, 0), count, code)
		}
		for _, length := range []int64{math.MinInt64, -2, -1, 6, 7, 60, 1 << 32, math.MaxInt64} {
			count, code := impl.CountTaken(c, length)
			expectError(t, "CountTaken", impl.ErrRange, code, count)
		}
	}
	for length := range int64(6) {
		want, _ := impl.CountMatched(length)
		count, code := impl.CountTaken(impl.MatchedChecker(), length)
		expect(t, "matched words", told(want, 0), count, code)
	}
	all := evenChecker(1, 1, 0, 0)
	all.Accept[0] = true
	for length, want := range []int64{1, 6, 36, 216, 1296, 7776} {
		count, code := impl.CountTaken(all, int64(length))
		expect(t, "all words", told(want, 0), count, code)
	}
}

func TestNothingIsFirstInBrokenCheckers(t *testing.T) {
	largest := evenChecker(impl.MaxStates, impl.MaxStack, 0, 0)
	for i, c := range brokenCheckers() {
		for _, state := range []int64{-1, 0, 50} {
			word, one := impl.MatchedBetween(c, state, state/2)
			expectError(t, "MatchedBetween", impl.ErrInvalid, one, word)
			count, two := impl.CountTaken(c, state)
			expectError(t, "CountTaken", impl.ErrInvalid, two, count)
		}
		reached, three := impl.ReachedBy(c)
		expectError(t, "ReachedBy", impl.ErrInvalid, three, reached)
		empty, four := impl.IsEmpty(c)
		expectError(t, "IsEmpty", impl.ErrInvalid, four, empty)
		first, five := impl.FirstTaken(c)
		expectError(t, "FirstTaken", impl.ErrInvalid, five, first)
		d := []impl.Checker{impl.MatchedChecker(), largest, c}[i%3] // invalid comes ahead of the limit
		for _, pair := range [][2]impl.Checker{{c, d}, {d, c}} {
			word, six := impl.FirstDifference(pair[0], pair[1])
			expectError(t, "FirstDifference", impl.ErrInvalid, six, word)
			equal, seven := impl.AreEqual(pair[0], pair[1])
			expectError(t, "AreEqual", impl.ErrInvalid, seven, equal)
		}
	}
}
