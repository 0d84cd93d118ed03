package tests

import (
	"math"
	"slices"
	"strings"
	"testing"

	"loop.example/g01145/impl"
)

// outTexts has all texts that rewriters may write at a move.
var outTexts = textsUpTo(impl.MaxOut)

// textsUpTo returns all texts of at most so many symbols.
func textsUpTo(most int) []string {
	var texts []string
	for length := range most + 1 {
		texts = append(texts, wordsOf(length)...)
	}
	return texts
}

// keepsMatching reports whether a text that is written for a symbol leaves just
// one pending symbol like it, or none for an inner letter.
func keepsMatching(s byte, out string) bool {
	core := coreByCancelling(out)
	switch {
	case isCall(s):
		return len(core) == 1 && isCall(core[0])
	case isReturn(s):
		return len(core) == 1 && isReturn(core[0])
	}
	return core == ""
}

// keptTexts has, for each symbol, the texts that keep the matching.
var keptTexts = textsThatKeep()

func textsThatKeep() map[byte][]string {
	texts := map[byte][]string{}
	for _, s := range []byte(symbols) {
		texts[s] = slices.DeleteFunc(slices.Clone(outTexts), func(out string) bool { return !keepsMatching(s, out) })
	}
	return texts
}

// rewriterOf draws a rewriter that writes what is drawn for a symbol.
func (l *lottery) rewriterOf(states, marks int64, draw func(s byte) string) impl.Rewriter {
	r := impl.Rewriter{Stack: marks, Start: l.below(states)}
	for range states {
		var calls []impl.OutPush
		var returns [][]impl.OutMove
		var inner []impl.OutMove
		for kind := range 2 {
			calls = append(calls, impl.OutPush{To: l.below(states), Put: l.below(marks), Out: draw("(["[kind])})
			inner = append(inner, impl.OutMove{To: l.below(states), Out: draw("ab"[kind])})
			var list []impl.OutMove
			for range marks + 1 {
				list = append(list, impl.OutMove{To: l.below(states), Out: draw(")]"[kind])})
			}
			returns = append(returns, list)
		}
		r.Call, r.Return, r.Inner = append(r.Call, calls), append(r.Return, returns), append(r.Inner, inner)
	}
	return r
}

func (l *lottery) oneOf(texts []string) string { return texts[l.below(int64(len(texts)))] }

// anyRewriter draws texts of all lengths alike.
func (l *lottery) anyRewriter(states, marks int64) impl.Rewriter {
	return l.rewriterOf(states, marks, func(byte) string { return l.oneOf(wordsOf(int(l.below(impl.MaxOut + 1)))) })
}

// structural draws a rewriter that keeps the matching, with texts of at most so
// many symbols.
func (l *lottery) structural(states, marks int64, most int) impl.Rewriter {
	return l.rewriterOf(states, marks, func(s byte) string {
		isLong := func(out string) bool { return len(out) > most }
		return l.oneOf(slices.DeleteFunc(slices.Clone(keptTexts[s]), isLong))
	})
}

// evenRewriter returns a rewriter in which each number and each text is the same.
func evenRewriter(states, marks, to, put int64, out string) impl.Rewriter {
	r := impl.Rewriter{Stack: marks, Start: to}
	move := impl.OutMove{To: to, Out: out}
	for range states {
		push := impl.OutPush{To: to, Put: put, Out: out}
		list := slices.Repeat([]impl.OutMove{move}, int(marks)+1)
		r.Call = append(r.Call, []impl.OutPush{push, push})
		r.Return = append(r.Return, [][]impl.OutMove{slices.Clone(list), list})
		r.Inner = append(r.Inner, []impl.OutMove{move, move})
	}
	return r
}

// sameTexts returns a rewriter with one state and one mark that writes some text
// for each symbol, in their order.
func sameTexts(outs ...string) impl.Rewriter {
	r := evenRewriter(1, 1, 0, 0, "")
	for kind := range 2 {
		r.Call[0][kind].Out = outs[kind]
		r.Return[0][kind] = []impl.OutMove{{Out: outs[2+kind]}, {Out: outs[2+kind]}}
		r.Inner[0][kind].Out = outs[4+kind]
	}
	return r
}

// made expects that a rewriter is made.
func made(r impl.Rewriter, code int64) impl.Rewriter {
	if code != impl.OK {
		panic(code)
	}
	return r
}

// knownRewriters returns those that functions of the chapter make.
func knownRewriters() []impl.Rewriter {
	return []impl.Rewriter{
		impl.IdentityRewriter(), impl.FixRewriter(), made(impl.RenameRewriter("[(])ba")), made(impl.RenameRewriter("[[))bb")),
		made(impl.DropRewriter("a")), made(impl.DropRewriter("b")), made(impl.ThinRewriter("a")), made(impl.ThinRewriter("b")),
		made(impl.UnwrapRewriter("(")), made(impl.UnwrapRewriter("[")),
	}
}

// structuralRewriters returns known ones, and ones of all sizes that write
// matched words, several calls and several returns, too.
func structuralRewriters() []impl.Rewriter {
	l := lottery(241)
	list := knownRewriters()[:8]
	for _, most := range []int{1, 2, impl.MaxOut} {
		for _, size := range [][2]int64{{1, 1}, {1, impl.MaxRewrite}, {impl.MaxRewrite, 1}, {impl.MaxRewrite, impl.MaxRewrite}, {2, 2}, {2, 3}, {4, 2}, {3, 1}, {5, 6}} {
			list = append(list, l.structural(size[0], size[1], most), l.structural(size[0], size[1], most))
		}
	}
	return append(list,
		sameTexts("()(", "[](a", ")()", "a)[]", "()[]", "(ab)"), sameTexts("(()", "[[)a", "())", "b[])", "", "([])"),
		sameTexts("[", "[", "]", "]", "", ""), sameTexts("ab(a", "(b", "b)a", "ab]b", "bbaa", "()"))
}

// sampleRewriters returns rewriters of the least, the greatest and other sizes,
// structural ones and others.
func sampleRewriters() []impl.Rewriter {
	l := lottery(251)
	list := slices.Concat(knownRewriters(), structuralRewriters())
	for _, size := range [][2]int64{{1, 1}, {1, impl.MaxRewrite}, {impl.MaxRewrite, 1}, {impl.MaxRewrite, impl.MaxRewrite}, {2, 1}, {2, 2}, {3, 2}, {5, 4}} {
		list = append(list, l.anyRewriter(size[0], size[1]), l.anyRewriter(size[0], size[1]))
		for _, out := range []string{"", "a", "([)]", ")](["} {
			list = append(list, evenRewriter(size[0], size[1], size[0]-1, size[1]-1, out))
		}
	}
	return list
}

// copiedRewriter returns a rewriter that shares no memory with r.
func copiedRewriter(r impl.Rewriter) impl.Rewriter {
	r.Call, r.Return, r.Inner = copiedLists(r.Call), slices.Clone(r.Return), copiedLists(r.Inner)
	for state, lists := range r.Return {
		r.Return[state] = copiedLists(lists)
	}
	return r
}

// rewriterNumbers returns all numbers of a valid rewriter that name states and
// marks.
func rewriterNumbers(r *impl.Rewriter) []numberIn {
	states := int64(len(r.Call))
	list := []numberIn{{&r.Start, states}}
	for state := range r.Call {
		for kind := range 2 {
			list = append(list, numberIn{&r.Call[state][kind].To, states}, numberIn{&r.Call[state][kind].Put, r.Stack})
			for mark := range r.Return[state][kind] {
				list = append(list, numberIn{&r.Return[state][kind][mark].To, states})
			}
			list = append(list, numberIn{&r.Inner[state][kind].To, states})
		}
	}
	return list
}

// textIn is a text of a rewriter, and the symbol for which it is written.
type textIn struct {
	at     *string
	symbol byte
}

func rewriterTexts(r *impl.Rewriter) []textIn {
	var list []textIn
	for state := range r.Call {
		for kind := range 2 {
			list = append(list, textIn{&r.Call[state][kind].Out, "(["[kind]}, textIn{&r.Inner[state][kind].Out, "ab"[kind]})
			for mark := range r.Return[state][kind] {
				list = append(list, textIn{&r.Return[state][kind][mark].Out, ")]"[kind]})
			}
		}
	}
	return list
}

// rewriterLengthChanges returns functions that change the length of one list
// each, of a valid rewriter with at least two states.
func rewriterLengthChanges() []func(r *impl.Rewriter, by int) {
	changes := []func(r *impl.Rewriter, by int){
		func(r *impl.Rewriter, by int) { changeLength(&r.Call, len(r.Call)+by) },
		func(r *impl.Rewriter, by int) { changeLength(&r.Return, len(r.Return)+by) },
		func(r *impl.Rewriter, by int) { changeLength(&r.Inner, len(r.Inner)+by) },
	}
	for state := range 2 {
		changes = append(changes,
			func(r *impl.Rewriter, by int) { changeLength(&r.Call[state], 2+by) },
			func(r *impl.Rewriter, by int) { changeLength(&r.Return[state], 2+by) },
			func(r *impl.Rewriter, by int) { changeLength(&r.Inner[state], 2+by) })
		for kind := range 2 {
			changes = append(changes, func(r *impl.Rewriter, by int) {
				changeLength(&r.Return[state][kind], len(r.Return[state][kind])+by)
			})
		}
	}
	return changes
}

// noOuts returns texts that no move may write.
func noOuts() []string {
	return []string{"c", "A", "-", " ", "\n", "\x00", "é", "a ", " a", "(c)", "ab]c", "{", "aaaaa", "([)]a", "()()(", "(((((", "aaaac", "é(", strings.Repeat("a", impl.MaxWord), strings.Repeat("()", 500)}
}

// brokenRewriters returns rewriters that are not valid, most for one reason alone.
func brokenRewriters() []impl.Rewriter {
	l := lottery(257)
	whole := l.anyRewriter(3, 2)
	var list []impl.Rewriter
	broken := func(change func(r *impl.Rewriter)) {
		r := copiedRewriter(whole)
		change(&r)
		list = append(list, r)
	}
	for _, stack := range []int64{math.MinInt64, -1, 0, 1, 3, impl.MaxRewrite + 1, math.MaxInt64 - 1, math.MaxInt64} {
		broken(func(r *impl.Rewriter) { r.Stack = stack })
	}
	for i, number := range rewriterNumbers(&whole) {
		for _, value := range []int64{math.MinInt64, -1, number.count, number.count + 1, 1 << 32, math.MaxInt64} {
			broken(func(r *impl.Rewriter) { *rewriterNumbers(r)[i].at = value })
		}
	}
	for i := range rewriterTexts(&whole) {
		for _, out := range noOuts() {
			broken(func(r *impl.Rewriter) { *rewriterTexts(r)[i].at = out })
		}
	}
	for _, change := range rewriterLengthChanges() {
		broken(func(r *impl.Rewriter) { change(r, 1) })
		broken(func(r *impl.Rewriter) { change(r, -1) })
		broken(func(r *impl.Rewriter) { change(r, -2) })
	}
	const more = impl.MaxRewrite + 1
	return append(list, impl.Rewriter{}, impl.Rewriter{Stack: 1}, evenRewriter(0, 1, 0, 0, ""), evenRewriter(1, 0, 0, 0, ""),
		evenRewriter(more, 1, 0, 0, ""), evenRewriter(1, more, 0, 0, ""), evenRewriter(more, more, 0, 0, ""), evenRewriter(more, impl.MaxRewrite, 0, 0, ""), evenRewriter(impl.MaxRewrite, more, 0, 0, ""))
}

// rewrittenByPlaces follows a rewriter without a stack: a return takes off the
// mark that was put at the place that it matches. It returns the state, the stack
// and all that is written, however much this is.
func rewrittenByPlaces(r impl.Rewriter, state int64, stack []int64, w string) (int64, []int64, string) {
	partners := partnersByBalance(w)
	marks := make([]int64, len(w))
	rest := slices.Clone(stack)
	text := ""
	for i := range len(w) {
		kind := symbolKind(w[i])
		var m impl.OutMove
		switch {
		case isCall(w[i]):
			push := r.Call[state][kind]
			marks[i] = push.Put
			m = impl.OutMove{To: push.To, Out: push.Out}
		case !isReturn(w[i]):
			m = r.Inner[state][kind]
		case partners[i] >= 0:
			m = r.Return[state][kind][marks[partners[i]]]
		case len(rest) > 0:
			m = r.Return[state][kind][rest[len(rest)-1]]
			rest = rest[:len(rest)-1]
		default:
			m = r.Return[state][kind][r.Stack]
		}
		state, text = m.To, text+m.Out
	}
	for i := range len(w) {
		if isCall(w[i]) && partners[i] < 0 {
			rest = append(rest, marks[i])
		}
	}
	return state, rest, text
}

// writtenFor returns what is written for a word, however much this is.
func writtenFor(r impl.Rewriter, w string) string {
	_, _, text := rewrittenByPlaces(r, r.Start, nil, w)
	return text
}

func expectRewriter(t *testing.T, name string, want, r impl.Rewriter, code int64) {
	t.Helper()
	if !impl.SameRewriter(r, want) || told(r) != told(want) || code != impl.OK {
		t.Errorf("%s: got the code %d and %v, want %v", name, code, r, want)
	}
}

// expectWritten checks what is written for words, as far as it is short enough.
func expectWritten(t *testing.T, name string, r impl.Rewriter, words []string, want func(w string) string) {
	t.Helper()
	for _, w := range words {
		text, code := impl.Rewrite(r, w)
		if len(want(w)) > impl.MaxWord {
			expectError(t, name+" and "+w, impl.ErrLimit, code, text)
			continue
		}
		if text != want(w) || code != impl.OK {
			t.Fatalf("%s and %q: got %q and the code %d, want %q", name, w, text, code, want(w))
		}
	}
}
