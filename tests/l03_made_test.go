package tests

import (
	"slices"
	"testing"

	"loop.example/g01145/impl"
)

// known is what a state of a checker made of choices stands for, in order.
type known struct {
	pairs [][2]int64
	set   []int64
}

func knownOf(pairs [][2]int64, set []int64) known {
	pairs = slices.Clone(pairs)
	slices.SortFunc(pairs, func(a, b [2]int64) int { return slices.Compare(a[:], b[:]) })
	return known{slices.Compact(pairs), sortedSet(set)}
}

// wayMaker makes a checker of choices as the document tells it, pair by pair,
// and writes down each move as it is met.
type wayMaker struct {
	m       impl.Choices
	met     []known
	numbers map[string]int64
	call    map[[2]int]int64
	inner   map[[2]int]int64
	returns map[[4]int]int64
	empty   map[[2]int]int64
}

func (k *wayMaker) numberOf(x known) int64 {
	text := told(x)
	number, old := k.numbers[text]
	if !old {
		number = int64(len(k.met))
		k.numbers[text] = number
		k.met = append(k.met, x)
	}
	return number
}

func (k *wayMaker) fresh(set []int64) known {
	var pairs [][2]int64
	for state := range int64(len(k.m.Accept)) {
		pairs = append(pairs, [2]int64{state, state})
	}
	return knownOf(pairs, set)
}

// throughCall returns where the call, the present pairs and the return lead
// from q.
func (k *wayMaker) throughCall(q int64, call int, present known, back int) []int64 {
	var ends []int64
	for _, push := range k.m.Call[q][call] {
		for _, pair := range present.pairs {
			if pair[0] == push.To {
				ends = append(ends, k.m.Return[pair[1]][back][push.Put]...)
			}
		}
	}
	return ends
}

func (k *wayMaker) behindReturn(marked known, call int, present known, back int) known {
	var pairs [][2]int64
	for _, pair := range marked.pairs {
		for _, r := range k.throughCall(pair[1], call, present, back) {
			pairs = append(pairs, [2]int64{pair[0], r})
		}
	}
	var set []int64
	for _, q := range marked.set {
		set = append(set, k.throughCall(q, call, present, back)...)
	}
	return knownOf(pairs, set)
}

func (k *wayMaker) lookAt(s int) {
	here := k.met[s]
	for call := range 2 {
		var set []int64
		for _, q := range here.set {
			for _, push := range k.m.Call[q][call] {
				set = append(set, push.To)
			}
		}
		k.call[[2]int{s, call}] = k.numberOf(k.fresh(set))
	}
	for letter := range 2 {
		var pairs [][2]int64
		for _, pair := range here.pairs {
			for _, r := range k.m.Inner[pair[1]][letter] {
				pairs = append(pairs, [2]int64{pair[0], r})
			}
		}
		var set []int64
		for _, q := range here.set {
			set = append(set, k.m.Inner[q][letter]...)
		}
		k.inner[[2]int{s, letter}] = k.numberOf(knownOf(pairs, set))
	}
	for back := range 2 {
		var set []int64
		for _, q := range here.set {
			set = append(set, k.m.Return[q][back][k.m.Stack]...)
		}
		k.empty[[2]int{s, back}] = k.numberOf(k.fresh(set))
	}
	for other := 0; other <= s; other++ {
		for call := range 2 {
			for back := range 2 {
				k.returns[[4]int{s, back, other, call}] = k.numberOf(k.behindReturn(k.met[other], call, here, back))
			}
			for back := range 2 {
				k.returns[[4]int{other, back, s, call}] = k.numberOf(k.behindReturn(here, call, k.met[other], back))
			}
		}
	}
}

// madeByPairs returns what CheckerOf should, and the number of states; if these
// are more than most, it stops, and there is no checker.
func madeByPairs(m impl.Choices, most int) (impl.Checker, int) {
	k := &wayMaker{m: m, numbers: map[string]int64{}, call: map[[2]int]int64{}, inner: map[[2]int]int64{}, returns: map[[4]int]int64{}, empty: map[[2]int]int64{}}
	k.numberOf(k.fresh(m.Starts))
	for s := 0; s < len(k.met); s++ {
		if len(k.met) > most {
			return impl.Checker{}, len(k.met)
		}
		k.lookAt(s)
	}
	c := impl.Checker{Stack: 2 * int64(len(k.met))}
	for s, here := range k.met {
		c.Accept = append(c.Accept, slices.ContainsFunc(here.set, func(state int64) bool { return m.Accept[state] }))
		var calls []impl.Push
		var returns [][]int64
		for kind := range 2 {
			calls = append(calls, impl.Push{To: k.call[[2]int{s, kind}], Put: int64(2*s + kind)})
			var list []int64
			for mark := range 2 * len(k.met) {
				list = append(list, k.returns[[4]int{s, kind, mark / 2, mark % 2}])
			}
			returns = append(returns, append(list, k.empty[[2]int{s, kind}]))
		}
		c.Call, c.Return = append(c.Call, calls), append(c.Return, returns)
		c.Inner = append(c.Inner, []int64{k.inner[[2]int{s, 0}], k.inner[[2]int{s, 1}]})
	}
	return c, len(k.met)
}

func TestCheckerOfByHand(t *testing.T) {
	m := impl.Choices{
		Stack:  1,
		Starts: []int64{0},
		Accept: []bool{true},
		Call:   [][][]impl.Push{{{{}}, nil}},
		Return: [][][][]int64{{{{0}, nil}, {nil, {0}}}},
		Inner:  [][][]int64{{{0}, nil}},
	}
	c, code := impl.CheckerOf(m)
	expectChecker(t, "one state", "checker 3 6 0\n"+
		"yes 0 0 1 1 0 2 1 2 2 2 1 2 2 2 2 2 2 0 0 2\n"+
		"no 1 2 1 3 0 2 1 2 2 2 1 2 2 2 2 2 2 1 1 2\n"+
		"no 1 4 1 5 2 2 2 2 2 2 1 2 2 2 2 2 2 1 2 2\n", c, code)
	m.Starts = nil
	c, code = impl.CheckerOf(m)
	expectChecker(t, "no start", "checker 2 4 0\n"+
		"no 0 0 0 1 0 1 1 1 0 1 1 1 1 0 0 1\n"+
		"no 0 2 0 3 1 1 1 1 0 1 1 1 1 0 1 1\n", c, code)
}

func TestCheckerOf(t *testing.T) {
	t.Parallel()
	made, words := map[bool]int{}, append(shortWords()[:100], randomWords(1)...)
	for _, m := range sampleChoices() {
		want, states := madeByPairs(m, impl.MaxStates)
		c, code := impl.CheckerOf(m)
		made[code == impl.OK]++
		if states > impl.MaxStates {
			expectError(t, "CheckerOf", impl.ErrLimit, code, c)
			continue
		}
		expectChecker(t, "CheckerOf", impl.CheckerText(want), c, code)
		expectTakes(t, "CheckerOf", c, words, func(w string) bool { return takesByParts(m, w) })
	}
	if made[true] < 40 || made[false] < 20 {
		t.Errorf("%d checkers are made, %d have too many states", made[true], made[false])
	}
}

func TestCheckerOfLimits(t *testing.T) {
	t.Parallel()
	for size, want := range map[[4]int64]int{
		{2, 4, 4, 10}: 39, {3, 1, 1, 20}: 40, {3, 1, 2, 8}: 40, {4, 1, 1, 53}: 40, {5, 3, 4, 27}: 40, {5, 4, 4, 53}: 40,
		{3, 1, 2, 37}: 41, {3, 1, 4, 23}: 41, {4, 1, 1, 11}: 41, {5, 1, 1, 9}: 41, {5, 2, 4, 39}: 41, {4, 1, 1, 46}: 42,
	} {
		l := lottery(size[3])
		m := l.choices(size[0], size[1], size[2])
		made, states := madeByPairs(m, 42)
		if states != want {
			t.Fatalf("%v: the tests find %d states, not %d", size, states, want)
		}
		c, code := impl.CheckerOf(m)
		if states > impl.MaxStates {
			expectError(t, told(size), impl.ErrLimit, code, c)
			continue
		}
		expectChecker(t, told(size), impl.CheckerText(made), c, code)
		expect(t, "marks", told(2*want), c.Stack)
	}
}

// TestChoicesAndCheckersAreEqual goes from a checker to choices and back.
func TestChoicesAndCheckersAreEqual(t *testing.T) {
	compared := 0
	for _, c := range choiceCheckers() {
		m, one := impl.ChoicesOf(c)
		again, two := impl.CheckerOf(m)
		if two == impl.ErrLimit || len(c.Accept)*len(again.Accept) > impl.MaxPairs {
			continue
		}
		equal, three := impl.AreEqual(c, again)
		expect(t, "what is made of a checker", "0 0 true 0", one, two, equal, three)
		compared++
	}
	if compared < 5 {
		t.Errorf("%d checkers are compared", compared)
	}
}
