package tests

import (
	"math"
	"slices"
	"strings"
	"testing"

	"loop.example/g01145/impl"
)

// some returns some of the numbers below count, the more the greater ofTen is.
func (l *lottery) some(count, ofTen int64) []int64 {
	var list []int64
	for n := range count {
		if l.below(10) < ofTen {
			list = append(list, n)
		}
	}
	return list
}

func (l *lottery) somePushes(states, marks, ofTen int64) []impl.Push {
	var list []impl.Push
	for _, n := range l.some(states*marks, ofTen) {
		list = append(list, impl.Push{To: n / marks, Put: n % marks})
	}
	return list
}

func (l *lottery) someLists(length, count, ofTen int64) [][]int64 {
	var lists [][]int64
	for range length {
		lists = append(lists, l.some(count, ofTen))
	}
	return lists
}

// choices returns choices that can do the more the greater ofTen is.
func (l *lottery) choices(states, marks, ofTen int64) impl.Choices {
	m := impl.Choices{Stack: marks, Starts: l.some(states, ofTen+3)}
	for range states {
		m.Accept = append(m.Accept, l.below(3) == 0)
		m.Call = append(m.Call, [][]impl.Push{l.somePushes(states, marks, ofTen), l.somePushes(states, marks, ofTen)})
		m.Return = append(m.Return, [][][]int64{l.someLists(marks+1, states, ofTen), l.someLists(marks+1, states, ofTen)})
		m.Inner = append(m.Inner, l.someLists(2, states, ofTen))
	}
	return m
}

// sampleChoices returns choices of all sizes, among them those that can do
// nothing and those that can do everything.
func sampleChoices() []impl.Choices {
	l := lottery(3)
	list := []impl.Choices{guessedReturn(), firstByThree()}
	for states := range int64(impl.MaxChoice) {
		for marks := range int64(impl.MaxMarks) {
			list = append(list, l.choices(states+1, marks+1, 0), l.choices(states+1, marks+1, 10))
			for ofTen := int64(1); ofTen < 6; ofTen++ {
				list = append(list, l.choices(states+1, marks+1, ofTen))
			}
		}
	}
	for _, c := range list[2:20] {
		c = copiedChoices(c)
		c.Starts = nil
		list = append(list, c)
	}
	return list
}

// noMoves has the lists for two symbols and one mark.
func noMoves() [][]int64 { return make([][]int64, 2) }

// guessedReturn returns choices that guess at a call whether it is pending.
func guessedReturn() impl.Choices {
	return impl.Choices{
		Stack:  1,
		Starts: []int64{0},
		Accept: []bool{false, true},
		Call:   [][][]impl.Push{{{{To: 0}, {To: 1}}, {}}, {{}, {}}},
		Return: [][][][]int64{{noMoves(), noMoves()}, {{{1}, {}}, noMoves()}},
		Inner:  [][][]int64{{{0}, {}}, {{1}, {}}},
	}
}

// firstByThree returns choices with three starts, the first words from which are
// "([", "[" and ")".
func firstByThree() impl.Choices {
	m := impl.Choices{Stack: 1, Starts: []int64{0, 1, 2}, Accept: []bool{false, false, false, true}}
	for range m.Accept {
		m.Call = append(m.Call, make([][]impl.Push, 2))
		m.Return = append(m.Return, [][][]int64{noMoves(), noMoves()})
		m.Inner = append(m.Inner, noMoves())
	}
	m.Call[0][0] = []impl.Push{{To: 1}}
	m.Call[1][1] = []impl.Push{{To: 3}}
	m.Return[2][0][1] = []int64{0, 3}
	return m
}

func copiedLists[T any](lists [][]T) [][]T {
	copies := slices.Clone(lists)
	for i, list := range lists {
		copies[i] = slices.Clone(list)
	}
	return copies
}

// copiedChoices returns choices that share no memory with m.
func copiedChoices(m impl.Choices) impl.Choices {
	m.Starts, m.Accept = slices.Clone(m.Starts), slices.Clone(m.Accept)
	m.Call, m.Return, m.Inner = slices.Clone(m.Call), copiedLists(m.Return), slices.Clone(m.Inner)
	for state, lists := range m.Call {
		m.Call[state] = copiedLists(lists)
	}
	for _, lists := range m.Return {
		for kind, ofMarks := range lists {
			lists[kind] = copiedLists(ofMarks)
		}
	}
	for state, lists := range m.Inner {
		m.Inner[state] = copiedLists(lists)
	}
	return m
}

// stateListsIn returns all lists of states of choices.
func stateListsIn(m *impl.Choices) []*[]int64 {
	list := []*[]int64{&m.Starts}
	for state := range m.Return {
		for kind := range m.Return[state] {
			for mark := range m.Return[state][kind] {
				list = append(list, &m.Return[state][kind][mark])
			}
		}
	}
	for state := range m.Inner {
		for kind := range m.Inner[state] {
			list = append(list, &m.Inner[state][kind])
		}
	}
	return list
}

// pushListsIn returns all lists of pushes of choices.
func pushListsIn(m *impl.Choices) []*[]impl.Push {
	var list []*[]impl.Push
	for state := range m.Call {
		for kind := range m.Call[state] {
			list = append(list, &m.Call[state][kind])
		}
	}
	return list
}

// choiceLengthChanges returns functions that change the length of one list
// each, not of those of what can be done, of choices with two states or more.
func choiceLengthChanges() []func(m *impl.Choices, by int) {
	changes := []func(m *impl.Choices, by int){
		func(m *impl.Choices, by int) { changeLength(&m.Accept, len(m.Accept)+by) },
		func(m *impl.Choices, by int) { changeLength(&m.Call, len(m.Call)+by) },
		func(m *impl.Choices, by int) { changeLength(&m.Return, len(m.Return)+by) },
		func(m *impl.Choices, by int) { changeLength(&m.Inner, len(m.Inner)+by) },
	}
	for state := range 2 {
		changes = append(changes,
			func(m *impl.Choices, by int) { changeLength(&m.Call[state], 2+by) },
			func(m *impl.Choices, by int) { changeLength(&m.Return[state], 2+by) },
			func(m *impl.Choices, by int) { changeLength(&m.Inner[state], 2+by) })
		for kind := range 2 {
			changes = append(changes, func(m *impl.Choices, by int) {
				changeLength(&m.Return[state][kind], len(m.Return[state][kind])+by)
			})
		}
	}
	return changes
}

// brokenChoices returns choices that are not valid, each for one reason alone.
func brokenChoices() []impl.Choices {
	l := lottery(37)
	whole := l.choices(3, 2, 10)
	var list []impl.Choices
	broken := func(change func(m *impl.Choices)) {
		m := copiedChoices(whole)
		change(&m)
		list = append(list, m)
	}
	for _, stack := range []int64{math.MinInt64, -1, 0, 1, 3, impl.MaxMarks + 1, math.MaxInt64 - 1, math.MaxInt64} {
		broken(func(m *impl.Choices) { m.Stack = stack })
	}
	for i := range stateListsIn(&whole) {
		for _, states := range [][]int64{{-1}, {3}, {math.MinInt64}, {math.MaxInt64}, {1 << 32}, {0, 3}, {-1, 0}, {1, 1}, {1, 0}, {0, 1, 1}, {0, 2, 1}, {0, 0, 1, 2}} {
			broken(func(m *impl.Choices) { *stateListsIn(m)[i] = states })
		}
	}
	for i := range pushListsIn(&whole) {
		for _, pushes := range [][]impl.Push{
			{{To: -1}}, {{To: 3}}, {{Put: -1}}, {{Put: 2}}, {{To: math.MaxInt64}}, {{Put: math.MinInt64}}, {{To: 1}, {To: 1, Put: 2}},
			{{To: 1, Put: 1}, {To: 1, Put: 1}}, {{To: 1, Put: 1}, {To: 1, Put: 0}}, {{To: 1, Put: 0}, {To: 0, Put: 1}}, {{To: 2}, {To: 1}}, {{}, {To: 2}, {To: 2}},
		} {
			broken(func(m *impl.Choices) { *pushListsIn(m)[i] = pushes })
		}
	}
	for _, change := range choiceLengthChanges() {
		broken(func(m *impl.Choices) { change(m, 1) })
		broken(func(m *impl.Choices) { change(m, -1) })
		broken(func(m *impl.Choices) { change(m, -2) })
	}
	return append(list, impl.Choices{}, impl.Choices{Stack: 1}, l.choices(impl.MaxChoice+1, 1, 5), l.choices(1, impl.MaxMarks+1, 5),
		l.choices(impl.MaxChoice+1, impl.MaxMarks, 0), l.choices(impl.MaxChoice, impl.MaxMarks+1, 0), l.choices(40, 80, 1))
}

// symbolKind is 0 for the first symbol of each sort, and 1 for the second one.
func symbolKind(s byte) int { return strings.IndexByte(symbols, s) % 2 }

func sortedSet(list []int64) []int64 {
	list = slices.Clone(list)
	slices.Sort(list)
	return slices.Compact(list)
}

// piecesOf cuts a word into inner letters, calls and returns that are pending,
// and calls with their bodies and returns.
func piecesOf(w string) []string {
	var pieces []string
	for w != "" {
		end := 1
		if isCall(w[0]) {
			end = max(1, int(partnersByBalance(w)[0])+1)
		}
		pieces = append(pieces, w[:end])
		w = w[end:]
	}
	return pieces
}

// pairsOfPiece returns where a piece leads from each state.
func pairsOfPiece(m impl.Choices, piece string) [][]int64 {
	kind, end := symbolKind(piece[0]), len(piece)-1
	var body [][]int64
	if end > 0 {
		body = pairsByParts(m, piece[1:end])
	}
	pairs := make([][]int64, len(m.Accept))
	for state := range pairs {
		switch {
		case isReturn(piece[0]):
			pairs[state] = m.Return[state][kind][m.Stack]
			continue
		case !isCall(piece[0]):
			pairs[state] = m.Inner[state][kind]
			continue
		}
		for _, p := range m.Call[state][kind] {
			if end == 0 {
				pairs[state] = append(pairs[state], p.To)
				continue
			}
			for _, last := range body[p.To] {
				pairs[state] = append(pairs[state], m.Return[last][symbolKind(piece[end])][p.Put]...)
			}
		}
	}
	return pairs
}

// pairsByParts returns where a word leads from each state, in order.
func pairsByParts(m impl.Choices, w string) [][]int64 {
	pairs := make([][]int64, len(m.Accept))
	for state := range pairs {
		pairs[state] = []int64{int64(state)}
	}
	for _, piece := range piecesOf(w) {
		next := pairsOfPiece(m, piece)
		for state, ends := range pairs {
			var behind []int64
			for _, end := range ends {
				behind = append(behind, next[end]...)
			}
			pairs[state] = sortedSet(behind)
		}
	}
	return pairs
}

// endsByParts returns where a word leads from Starts, in order.
func endsByParts(m impl.Choices, w string) []int64 {
	pairs := pairsByParts(m, w)
	var ends []int64
	for _, start := range m.Starts {
		ends = append(ends, pairs[start]...)
	}
	return sortedSet(ends)
}

func takesByParts(m impl.Choices, w string) bool {
	return slices.ContainsFunc(endsByParts(m, w), func(state int64) bool { return m.Accept[state] })
}

// endsByRuns goes all ways that choices can go, each with a stack of its own.
func endsByRuns(m impl.Choices, state int64, stack []int64, w string) []int64 {
	if w == "" {
		return []int64{state}
	}
	kind, top := symbolKind(w[0]), len(stack)-1
	var ends []int64
	switch {
	case isCall(w[0]):
		for _, p := range m.Call[state][kind] {
			ends = append(ends, endsByRuns(m, p.To, append(slices.Clone(stack), p.Put), w[1:])...)
		}
		return ends
	case isReturn(w[0]) && top >= 0:
		for _, next := range m.Return[state][kind][stack[top]] {
			ends = append(ends, endsByRuns(m, next, stack[:top], w[1:])...)
		}
		return ends
	}
	list := m.Inner[state][kind]
	if isReturn(w[0]) {
		list = m.Return[state][kind][m.Stack]
	}
	for _, next := range list {
		ends = append(ends, endsByRuns(m, next, stack, w[1:])...)
	}
	return ends
}

// compareWords is the order of words.
func compareWords(u, w string) int {
	if len(u) != len(w) {
		return len(u) - len(w)
	}
	for i := range len(u) {
		if u[i] != w[i] {
			return strings.IndexByte(symbols, u[i]) - strings.IndexByte(symbols, w[i])
		}
	}
	return 0
}

func expectChoices(t *testing.T, name string, want, m impl.Choices, code int64) {
	t.Helper()
	if !impl.SameChoices(m, want) || told(m) != told(want) || code != impl.OK {
		t.Errorf("%s: got the code %d and %v, want %v", name, code, m, want)
	}
}
