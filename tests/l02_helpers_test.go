package tests

import (
	"math"
	"slices"
	"strings"
	"testing"

	"loop.example/g01145/impl"
)

// lottery draws numbers, always the same.
type lottery uint64

func (l *lottery) below(n int64) int64 {
	*l = *l*6364136223846793005 + 1442695040888963407
	return int64(uint64(*l)>>33) % n
}

func (l *lottery) list(length, count int64) []int64 {
	var list []int64
	for range length {
		list = append(list, l.below(count))
	}
	return list
}

func (l *lottery) checker(states, stack int64) impl.Checker {
	c := impl.Checker{Stack: stack, Start: l.below(states)}
	for range states {
		c.Accept = append(c.Accept, l.below(2) == 0)
		c.Call = append(c.Call, []impl.Push{{To: l.below(states), Put: l.below(stack)}, {To: l.below(states), Put: l.below(stack)}})
		c.Return = append(c.Return, [][]int64{l.list(stack+1, states), l.list(stack+1, states)})
		c.Inner = append(c.Inner, l.list(2, states))
	}
	return c
}

// evenChecker returns a checker in which each number is the same.
func evenChecker(states, stack, to, put int64) impl.Checker {
	c := impl.Checker{Stack: stack, Start: to}
	for range states {
		c.Accept = append(c.Accept, false)
		c.Call = append(c.Call, []impl.Push{{To: to, Put: put}, {To: to, Put: put}})
		list := slices.Repeat([]int64{to}, int(stack)+1)
		c.Return = append(c.Return, [][]int64{slices.Clone(list), list})
		c.Inner = append(c.Inner, []int64{to, to})
	}
	return c
}

// sampleCheckers returns checkers of the least, the greatest and other sizes.
func sampleCheckers() []impl.Checker {
	l := lottery(2)
	list := []impl.Checker{impl.MatchedChecker(), impl.KindsChecker()}
	for _, size := range [][2]int64{{1, 1}, {1, impl.MaxStack}, {impl.MaxStates, 1}, {impl.MaxStates, impl.MaxStack}} {
		list = append(list, l.checker(size[0], size[1]), evenChecker(size[0], size[1], size[0]-1, size[1]-1))
	}
	for states := range int64(4) {
		for stack := range int64(3) {
			list = append(list, l.checker(states+2, stack+1), l.checker(states+2, stack+1))
		}
	}
	return list
}

// shortWords returns all very short words and some of each length.
func shortWords() []string {
	var words []string
	for length := range 4 {
		words = append(words, wordsOf(length)...)
	}
	return append(words, randomWords(3)...)
}

// copied returns a checker that shares no memory with c.
func copied(c impl.Checker) impl.Checker {
	c.Accept = slices.Clone(c.Accept)
	c.Call = slices.Clone(c.Call)
	for state, pushes := range c.Call {
		c.Call[state] = slices.Clone(pushes)
	}
	c.Return = slices.Clone(c.Return)
	for state, lists := range c.Return {
		c.Return[state] = slices.Clone(lists)
		for kind, list := range lists {
			c.Return[state][kind] = slices.Clone(list)
		}
	}
	c.Inner = slices.Clone(c.Inner)
	for state, list := range c.Inner {
		c.Inner[state] = slices.Clone(list)
	}
	return c
}

// numberIn is a number of a checker, and how many it has to choose from.
type numberIn struct {
	at    *int64
	count int64
}

// numbersIn returns all numbers of a valid checker that name states and marks.
func numbersIn(c *impl.Checker) []numberIn {
	states := int64(len(c.Accept))
	list := []numberIn{{&c.Start, states}}
	for state := range c.Accept {
		for kind := range 2 {
			list = append(list, numberIn{&c.Call[state][kind].To, states}, numberIn{&c.Call[state][kind].Put, c.Stack})
			for mark := range c.Return[state][kind] {
				list = append(list, numberIn{&c.Return[state][kind][mark], states})
			}
			list = append(list, numberIn{&c.Inner[state][kind], states})
		}
	}
	return list
}

func changeLength[T any](list *[]T, length int) {
	if length <= len(*list) {
		*list = (*list)[:length]
		return
	}
	for len(*list) < length {
		*list = append(*list, (*list)[0])
	}
}

// lengthChanges returns functions that change the length of one list each, of
// a valid checker with at least two states.
func lengthChanges() []func(c *impl.Checker, by int) {
	changes := []func(c *impl.Checker, by int){
		func(c *impl.Checker, by int) { changeLength(&c.Accept, len(c.Accept)+by) },
		func(c *impl.Checker, by int) { changeLength(&c.Call, len(c.Call)+by) },
		func(c *impl.Checker, by int) { changeLength(&c.Return, len(c.Return)+by) },
		func(c *impl.Checker, by int) { changeLength(&c.Inner, len(c.Inner)+by) },
	}
	for state := range 2 {
		changes = append(changes,
			func(c *impl.Checker, by int) { changeLength(&c.Call[state], 2+by) },
			func(c *impl.Checker, by int) { changeLength(&c.Return[state], 2+by) },
			func(c *impl.Checker, by int) { changeLength(&c.Inner[state], 2+by) },
			func(c *impl.Checker, by int) {
				changeLength(&c.Return[state][0], len(c.Return[state][0])+by)
			},
			func(c *impl.Checker, by int) {
				changeLength(&c.Return[state][1], len(c.Return[state][1])+by)
			})
	}
	return changes
}

// brokenCheckers returns checkers that are not valid, most for one reason alone.
func brokenCheckers() []impl.Checker {
	l := lottery(7)
	whole := l.checker(3, 2)
	var list []impl.Checker
	broken := func(change func(c *impl.Checker)) {
		c := copied(whole)
		change(&c)
		list = append(list, c)
	}
	for _, stack := range []int64{math.MinInt64, -1, 0, 1, 3, impl.MaxStack + 1, math.MaxInt64 - 1, math.MaxInt64} {
		broken(func(c *impl.Checker) { c.Stack = stack })
	}
	for i, number := range numbersIn(&whole) {
		for _, value := range []int64{math.MinInt64, -1, number.count, number.count + 1, 1 << 32, math.MaxInt64} {
			broken(func(c *impl.Checker) { *numbersIn(c)[i].at = value })
		}
	}
	for _, change := range lengthChanges() {
		broken(func(c *impl.Checker) { change(c, 1) })
		broken(func(c *impl.Checker) { change(c, -1) })
		broken(func(c *impl.Checker) { change(c, -2) })
	}
	return append(list, impl.Checker{}, impl.Checker{Stack: 1},
		evenChecker(0, 1, 0, 0), evenChecker(1, 0, 0, 0),
		evenChecker(impl.MaxStates+1, 1, 0, 0), evenChecker(1, impl.MaxStack+1, 0, 0),
		evenChecker(impl.MaxStates+1, impl.MaxStack, 0, 0), evenChecker(impl.MaxStates, impl.MaxStack+1, 0, 0))
}

// runByPlaces follows a run without a stack: a return takes off the mark that
// was put at the place that it matches. It returns states and stacks behind
// all beginnings.
func runByPlaces(c impl.Checker, state int64, stack []int64, w string) ([]int64, [][]int64) {
	partners := partnersByBalance(w)
	marks := make([]int64, len(w))
	rest := slices.Clone(stack)
	states, stacks := []int64{state}, [][]int64{slices.Clone(stack)}
	for i := range len(w) {
		switch kind := strings.IndexByte(symbols, w[i]) % 2; {
		case isCall(w[i]):
			marks[i] = c.Call[state][kind].Put
			state = c.Call[state][kind].To
		case !isReturn(w[i]):
			state = c.Inner[state][kind]
		case partners[i] >= 0:
			state = c.Return[state][kind][marks[partners[i]]]
		case len(rest) > 0:
			state = c.Return[state][kind][rest[len(rest)-1]]
			rest = rest[:len(rest)-1]
		default:
			state = c.Return[state][kind][c.Stack]
		}
		now := slices.Clone(rest)
		for k := range i + 1 {
			if isCall(w[k]) && (partners[k] < 0 || partners[k] > int64(i)) {
				now = append(now, marks[k])
			}
		}
		states, stacks = append(states, state), append(stacks, now)
	}
	return states, stacks
}

func takesByPlaces(c impl.Checker, w string) bool {
	states, _ := runByPlaces(c, c.Start, nil, w)
	return c.Accept[states[len(states)-1]]
}

func sameLists(a, b [][]int64) bool {
	return slices.EqualFunc(a, b, func(x, y []int64) bool { return slices.Equal(x, y) })
}

func expectChecker(t *testing.T, name, want string, c impl.Checker, code int64) {
	t.Helper()
	if text := impl.CheckerText(c); text != want || code != impl.OK {
		t.Errorf("%s: got the code %d and %q, want %q", name, code, text, want)
	}
}

// expectTakes checks that a checker takes just the words for which want holds.
func expectTakes(t *testing.T, name string, c impl.Checker, words []string, want func(w string) bool) {
	t.Helper()
	for _, w := range words {
		takes, code := impl.Takes(c, w)
		if takes != want(w) || code != impl.OK {
			t.Fatalf("%s and %q: got %v and the code %d, want %v", name, w, takes, code, want(w))
		}
	}
}
