package tests

import (
	"slices"
	"strings"
	"testing"

	"loop.example/g01145/impl"
)

// isStructuralByTexts looks at each text alone.
func isStructuralByTexts(r impl.Rewriter) bool {
	return !slices.ContainsFunc(rewriterTexts(&r), func(text textIn) bool { return !keepsMatching(text.symbol, *text.at) })
}

func TestKnownStructuralRewriters(t *testing.T) {
	for i, r := range knownRewriters() {
		yes, code := impl.IsStructural(r)
		expect(t, told("the known rewriter", i), told(i < 8, 0), yes, code)
	}
	for i, r := range structuralRewriters() {
		yes, code := impl.IsStructural(r)
		expect(t, told("the rewriter", i), "true 0", yes, code)
	}
	counts := map[bool]int{}
	for i, r := range sampleRewriters() {
		want := isStructuralByTexts(r)
		counts[want]++
		yes, code := impl.IsStructural(r)
		expect(t, told("the sample", i), told(want, 0), yes, code)
	}
	if counts[true] < 40 || counts[false] < 40 {
		t.Errorf("the samples are %v", counts)
	}
}

// TestEachTextKeepsTheMatchingOrNot puts each text that may be written at each
// place of a structural rewriter, also at returns with the empty stack, and in a
// state to which no moves lead.
func TestEachTextKeepsTheMatchingOrNot(t *testing.T) {
	l := lottery(281)
	r := l.structural(2, 2, impl.MaxOut)
	r.Start = 0
	for _, number := range rewriterNumbers(&r) {
		*number.at = 0
	}
	kept := 0
	for _, text := range rewriterTexts(&r) {
		before := *text.at
		for _, out := range outTexts {
			*text.at = out
			want := keepsMatching(text.symbol, out)
			if want {
				kept++
			}
			if yes, code := impl.IsStructural(r); yes != want || code != impl.OK {
				t.Errorf("%q for %q: got %v and the code %d", out, text.symbol, yes, code)
			}
		}
		*text.at = before
	}
	if kept < 1000 {
		t.Errorf("%d texts keep the matching", kept)
	}
}

func TestTextsThatJustKeepTheMatching(t *testing.T) {
	for _, known := range []struct {
		symbol int
		out    string
		want   bool
	}{
		{0, "(", true}, {0, "[", true}, {1, "(", true}, {0, "(()", true}, {0, "()(", true}, {0, "([]", true}, {0, "a(b", true}, {0, "[(]b", true}, {1, "()[]", false}, {0, "((", false}, {0, "", false}, {0, "a", false}, {0, ")(", false}, {0, ")", false}, {0, "())(", false}, {0, "(((]", false},
		{2, ")", true}, {2, "]", true}, {3, ")", true}, {2, "())", true}, {2, ")()", true}, {2, "[])a", true}, {2, "(a])", true}, {2, "))", false}, {2, "", false}, {2, "b", false}, {2, ")(", false}, {2, "(", false}, {2, "()", false}, {2, ")())", false}, {3, "]([]", false},
		{4, "", true}, {4, "b", true}, {4, "()", true}, {4, "a[b)", true}, {5, "()[]", true}, {5, "([)]", true}, {4, "(", false}, {4, ")", false}, {4, ")(", false}, {4, "())", false}, {5, "][", false}, {5, "(()", false},
	} {
		outs := strings.Split(symbols, "")
		outs[known.symbol] = known.out
		yes, code := impl.IsStructural(sameTexts(outs...))
		expect(t, told(known), told(known.want, 0), yes, code)
	}
	// What is written at the empty stack alone counts, too, and so does what is written with a mark.
	for _, mark := range []int{0, 1} {
		r := impl.IdentityRewriter()
		r.Return[0][1][mark].Out = "a"
		yes, code := impl.IsStructural(r)
		expect(t, told("the column", mark), "false 0", yes, code)
	}
}

// pendingShape returns the pending symbols without kinds.
func pendingShape(w string) string {
	return strings.NewReplacer("[", "(", "]", ")").Replace(coreByCancelling(w))
}

func TestStructuralRewritersKeepPendingSymbols(t *testing.T) {
	words := slices.Concat(wordsOf(3), randomWords(1))
	for i, r := range structuralRewriters() {
		for _, w := range words {
			text := writtenFor(r, w)
			if pendingShape(text) != pendingShape(w) {
				t.Fatalf("the rewriter %d writes %q for %q", i, text, w)
			}
			if short, code := impl.Rewrite(r, w); code == impl.OK && short != text {
				t.Fatalf("the rewriter %d writes %q for %q, want %q", i, short, w, text)
			}
		}
	}
}

// chained has, for a state and a stack of the second automaton, where a text leads
// it, and what it writes.
type chained func(state int64, stack []int64, text string) (int64, []int64, string)

func throughRewriter(s impl.Rewriter) chained {
	return func(state int64, stack []int64, text string) (int64, []int64, string) {
		return rewrittenByPlaces(s, state, stack, text)
	}
}

func throughChecker(c impl.Checker) chained {
	return func(state int64, stack []int64, text string) (int64, []int64, string) {
		states, stacks := runByPlaces(c, state, stack, text)
		return states[len(text)], stacks[len(text)], ""
	}
}

// composedByPairs makes a rewriter with n states and m marks of the second
// automaton pair by pair; it may be too large.
func composedByPairs(r impl.Rewriter, start, n, m int64, second chained) impl.Rewriter {
	both := impl.Rewriter{Stack: r.Stack * m, Start: r.Start*n + start}
	move := func(from impl.OutMove, q int64, stack []int64) impl.OutMove {
		to, _, out := second(q, stack, from.Out)
		return impl.OutMove{To: from.To*n + to, Out: out}
	}
	for p := range r.Call {
		for q := range n {
			var calls []impl.OutPush
			var returns [][]impl.OutMove
			var inner []impl.OutMove
			for kind := range 2 {
				push := r.Call[p][kind]
				to, stack, out := second(q, nil, push.Out)
				if len(stack) != 1 {
					panic("the text at a call leaves one mark")
				}
				calls = append(calls, impl.OutPush{To: push.To*n + to, Put: push.Put*m + stack[0], Out: out})
				list := make([]impl.OutMove, r.Stack*m+1)
				for x := range r.Stack {
					for y := range m {
						list[x*m+y] = move(r.Return[p][kind][x], q, []int64{y})
					}
				}
				list[r.Stack*m] = move(r.Return[p][kind][r.Stack], q, nil)
				returns = append(returns, list)
				inner = append(inner, move(r.Inner[p][kind], q, nil))
			}
			both.Call, both.Return, both.Inner = append(both.Call, calls), append(both.Return, returns), append(both.Inner, inner)
		}
	}
	return both
}

// isSmall reports whether a rewriter is not too large.
func isSmall(r impl.Rewriter) bool {
	isLong := func(text textIn) bool { return len(*text.at) > impl.MaxOut }
	return len(r.Call) <= impl.MaxRewrite && r.Stack <= impl.MaxRewrite && !slices.ContainsFunc(rewriterTexts(&r), isLong)
}

// checkComposed compares all moves, also those of pairs to which no moves lead, and
// returns whether there is a rewriter.
func checkComposed(t *testing.T, name string, r, s impl.Rewriter) bool {
	t.Helper()
	both, code := impl.ComposeRewriters(r, s)
	if !isStructuralByTexts(r) {
		expectError(t, name, impl.ErrState, code, both)
		return false
	}
	want := composedByPairs(r, s.Start, int64(len(s.Call)), s.Stack, throughRewriter(s))
	if !isSmall(want) {
		expectError(t, name, impl.ErrLimit, code, both)
		return false
	}
	expectRewriter(t, name, want, both, code)
	expect(t, name, "true", impl.ValidRewriter(both))
	return true
}

func TestComposedRewriters(t *testing.T) {
	list := sampleRewriters()
	composed := 0
	for i, r := range list {
		for k, s := range list {
			if (i*7+k)%3 == 0 && checkComposed(t, told("the rewriters", i, k), r, s) {
				composed++
			}
		}
	}
	if composed < 200 {
		t.Errorf("%d are composed", composed)
	}
}

// smallTexts returns pairs of rewriters that can be composed: a structural one and
// any other.
func smallTexts() [][2]impl.Rewriter {
	l := lottery(283)
	known := knownRewriters()
	var pairs [][2]impl.Rewriter
	for _, r := range known[:8] {
		for _, s := range known {
			pairs = append(pairs, [2]impl.Rewriter{r, s})
		}
	}
	short := func(byte) string { return l.oneOf(wordsOf(int(l.below(3)))) }
	single := func(byte) string { return l.oneOf(wordsOf(int(l.below(2)))) }
	for _, size := range [][4]int64{{1, 1, 1, 1}, {2, 2, 2, 2}, {4, 1, 2, 8}, {2, 3, 3, 2}, {8, 8, 1, 1}, {1, 1, 8, 8}, {2, 2, 4, 4}, {4, 4, 2, 2}, {1, 2, 3, 4}, {3, 4, 2, 1}} {
		for range 6 {
			pairs = append(pairs, [2]impl.Rewriter{l.structural(size[0], size[1], 2), l.rewriterOf(size[2], size[3], short)},
				[2]impl.Rewriter{l.structural(size[0], size[1], impl.MaxOut), l.rewriterOf(size[2], size[3], single)},
				[2]impl.Rewriter{l.structural(size[0], size[1], impl.MaxOut), l.structural(size[2], size[3], 1)})
		}
	}
	return pairs
}

// TestComposedRewritersWriteOneAfterTheOther also checks words of which more than
// MaxWord symbols are written on the way.
func TestComposedRewritersWriteOneAfterTheOther(t *testing.T) {
	words := slices.Concat(wordsOf(3), randomWords(1), []string{"", "([a)b]", "]a)(b[", "))((", "([[a]]b", strings.Repeat("(a", 8) + strings.Repeat(")]", 9)})
	written := 0
	for i, pair := range smallTexts() {
		both, code := impl.ComposeRewriters(pair[0], pair[1])
		if code != impl.OK {
			t.Fatalf("the pair %d: got the code %d", i, code)
		}
		for _, w := range words {
			between := writtenFor(pair[0], w)
			want := writtenFor(pair[1], between)
			text, one := impl.Rewrite(both, w)
			if len(want) > impl.MaxWord {
				expectError(t, told("the pair", i, w), impl.ErrLimit, one, text)
				continue
			}
			expect(t, told("the pair", i, w), told(want, 0), text, one)
			if len(between) <= impl.MaxWord {
				first, two := impl.Rewrite(pair[0], w)
				second, three := impl.Rewrite(pair[1], first)
				expect(t, told("the pair", i, w, "one by one"), told(want, 0, 0), second, two, three)
				written++
			}
		}
	}
	if written < 20000 {
		t.Errorf("%d words are rewritten", written)
	}
}

func TestComposedWithIdentity(t *testing.T) {
	identity := impl.IdentityRewriter()
	for i, r := range sampleRewriters() {
		after, one := impl.ComposeRewriters(identity, r)
		expectRewriter(t, told("behind the identity", i), r, after, one)
		if isStructuralByTexts(r) {
			before, two := impl.ComposeRewriters(r, identity)
			expectRewriter(t, told("before the identity", i), r, before, two)
		}
	}
}

func TestKnownComposed(t *testing.T) {
	thin, swap := made(impl.ThinRewriter("a")), made(impl.RenameRewriter("[(])ba"))
	for w, want := range map[string]string{"aa(aa)": "b[b] 0", "": " 0", "a": " 0", "b": "a 0", "(]": "[) 0", "ba[aab": "a(ba 0", ")": "] 0"} {
		text, code := impl.Rewrite(made(impl.ComposeRewriters(thin, swap)), w)
		expect(t, w, want, text, code)
	}
	// What stands in front of the pending return is read above its mark.
	deep := sameTexts("(", "[", "[b))", "[a])", "", "")
	for w, want := range map[string]string{"()": "([b]) 0", "[)": "[[b]] 0", "(]": "([a]) 0", ")": "[b]) 0", "([)": "([[b]] 0"} {
		text, code := impl.Rewrite(made(impl.ComposeRewriters(deep, impl.FixRewriter())), w)
		expect(t, w, want, text, code)
	}
	unwrap := made(impl.UnwrapRewriter("["))
	for w, want := range map[string]string{"(": "( 0", "[a]": "a 0", "()": "(b) 0", "[)": "b 0", ")": "b) 0", "]": "a) 0", "([)]": "(ba) 0"} {
		text, code := impl.Rewrite(made(impl.ComposeRewriters(deep, unwrap)), w)
		expect(t, w, want, text, code)
	}
}

func TestComposedLimits(t *testing.T) {
	for size, want := range map[[4]int64]int64{
		{1, 1, 8, 8}: impl.OK, {8, 8, 1, 1}: impl.OK, {2, 2, 4, 4}: impl.OK, {4, 2, 2, 4}: impl.OK, {2, 8, 4, 1}: impl.OK, {7, 1, 1, 8}: impl.OK,
		{3, 1, 3, 1}: impl.ErrLimit, {1, 3, 1, 3}: impl.ErrLimit, {2, 1, 5, 1}: impl.ErrLimit, {1, 5, 1, 2}: impl.ErrLimit, {8, 1, 2, 1}: impl.ErrLimit, {1, 8, 1, 2}: impl.ErrLimit, {8, 8, 8, 8}: impl.ErrLimit, {4, 3, 2, 3}: impl.ErrLimit, {3, 4, 3, 2}: impl.ErrLimit,
	} {
		l := lottery(293)
		r, s := l.structural(size[0], size[1], 1), l.structural(size[2], size[3], 1)
		both, code := impl.ComposeRewriters(r, s)
		checkComposed(t, told(size), r, s)
		if want != impl.OK {
			expectError(t, told(size), want, code, both)
			continue
		}
		expect(t, told(size), told(size[0]*size[2], size[1]*size[3], 0), len(both.Call), both.Stack, code)
	}
}

func TestComposedTextsHaveAtMostMaxOutSymbols(t *testing.T) {
	four := sameTexts("(", "[", ")", "]", "aa", "b")
	for outs, want := range map[[2]string]int64{{"ab", ""}: impl.OK, {"", "aaaa"}: impl.OK, {"([", "]])"}: impl.OK, {"abb", ""}: impl.ErrLimit, {"(((", "b"}: impl.ErrLimit, {"aaaa", ""}: impl.ErrLimit} {
		s := sameTexts("(", "[", ")", "]", outs[0], outs[1])
		both, code := impl.ComposeRewriters(four, s)
		if want != impl.OK {
			expectError(t, told(outs), want, code, both)
			continue
		}
		expect(t, told(outs), told(strings.Repeat(outs[0], 2), outs[1], 0), both.Inner[0][0].Out, both.Inner[0][1].Out, code)
	}
	// A pair to which no moves lead counts, too; and so does each kind of symbol.
	lost := impl.IdentityRewriter()
	lost = impl.Rewriter{Stack: 1, Call: slices.Repeat(lost.Call, 2), Return: slices.Repeat(lost.Return, 2), Inner: slices.Repeat(lost.Inner, 2)}
	for i := range rewriterTexts(&lost) {
		r := copiedRewriter(lost)
		text := rewriterTexts(&r)[i]
		if isCall(text.symbol) || isReturn(text.symbol) {
			*text.at = "a" + *text.at + "a"
		} else {
			*text.at = "aaa"
		}
		both, code := impl.ComposeRewriters(r, sameTexts("(", "[", ")", "]", "ab", "b"))
		expectError(t, told("the text", i), impl.ErrLimit, code, both)
		both, code = impl.ComposeRewriters(r, sameTexts("((", "[", ")", "]", "a", "b"))
		expect(t, told("the text", i), "0 true", code, impl.ValidRewriter(both))
	}
}

// TestErrorsOfComposed gives arguments that are wrong in several ways.
func TestErrorsOfComposed(t *testing.T) {
	unwrap, large, fix := made(impl.UnwrapRewriter("(")), evenRewriter(impl.MaxRewrite, impl.MaxRewrite, 0, 0, "()()"), impl.FixRewriter()
	for _, broken := range brokenRewriters() {
		yes, one := impl.IsStructural(broken)
		expectError(t, "IsStructural", impl.ErrInvalid, one, yes)
		for _, other := range []impl.Rewriter{unwrap, large, fix, broken} {
			for _, pair := range [][2]impl.Rewriter{{broken, other}, {other, broken}} {
				both, two := impl.ComposeRewriters(pair[0], pair[1])
				expectError(t, "ComposeRewriters", impl.ErrInvalid, two, both)
			}
		}
		for _, c := range []impl.Checker{impl.MatchedChecker(), {}, evenChecker(impl.MaxStates, impl.MaxStack, 0, 0)} {
			in, three := impl.PreimageChecker(broken, c)
			expectError(t, "PreimageChecker", impl.ErrInvalid, three, in)
		}
	}
	for _, c := range brokenCheckers() {
		for _, r := range []impl.Rewriter{unwrap, large, fix} {
			in, code := impl.PreimageChecker(r, c)
			expectError(t, "PreimageChecker", impl.ErrInvalid, code, in)
		}
	}
	for _, r := range []impl.Rewriter{unwrap, large} {
		for _, s := range []impl.Rewriter{unwrap, large, fix} {
			both, code := impl.ComposeRewriters(r, s)
			expectError(t, "ComposeRewriters", impl.ErrState, code, both)
		}
		for _, c := range []impl.Checker{impl.MatchedChecker(), evenChecker(impl.MaxStates, impl.MaxStack, 0, 0)} {
			in, code := impl.PreimageChecker(r, c)
			expectError(t, "PreimageChecker", impl.ErrState, code, in)
		}
	}
	both, code := impl.ComposeRewriters(fix, large)
	expectError(t, "ComposeRewriters", impl.ErrLimit, code, both)
	twice, code := impl.ComposeRewriters(fix, unwrap)
	expect(t, "the second one need not be structural", "true 0", impl.ValidRewriter(twice), code)
}

// preimageByPairs makes a checker pair by pair; it may be too large.
func preimageByPairs(r impl.Rewriter, c impl.Checker) impl.Checker {
	both := composedByPairs(r, c.Start, int64(len(c.Accept)), c.Stack, throughChecker(c))
	in := impl.Checker{Stack: both.Stack, Start: both.Start}
	for state := range both.Call {
		in.Accept = append(in.Accept, c.Accept[state%len(c.Accept)])
		var calls []impl.Push
		var returns [][]int64
		var inner []int64
		for kind := range 2 {
			calls = append(calls, impl.Push{To: both.Call[state][kind].To, Put: both.Call[state][kind].Put})
			var list []int64
			for _, m := range both.Return[state][kind] {
				list = append(list, m.To)
			}
			returns = append(returns, list)
			inner = append(inner, both.Inner[state][kind].To)
		}
		in.Call, in.Return, in.Inner = append(in.Call, calls), append(in.Return, returns), append(in.Inner, inner)
	}
	return in
}

// imageCheckers returns checkers that are small enough for several states.
func imageCheckers() []impl.Checker {
	l := lottery(307)
	list := append(smallCheckers(), l.checker(5, 10), l.checker(10, 5), l.checker(40, 80), evenChecker(5, 10, 4, 9))
	for _, most := range []int64{0, 1, 3} {
		c, _ := impl.DepthChecker(most)
		list = append(list, c)
	}
	for _, symbol := range strings.Split(symbols, "") {
		c, _ := impl.CountChecker(symbol, 3)
		list = append(list, c)
	}
	return list
}

func TestPreimages(t *testing.T) {
	made, refused := 0, 0
	for i, r := range structuralRewriters() {
		for k, c := range imageCheckers() {
			in, code := impl.PreimageChecker(r, c)
			if len(r.Call)*len(c.Accept) > impl.MaxStates || r.Stack*c.Stack > impl.MaxStack {
				expectError(t, told("the preimage", i, k), impl.ErrLimit, code, in)
				refused++
				continue
			}
			expectChecker(t, told("the preimage", i, k), impl.CheckerText(preimageByPairs(r, c)), in, code)
			made++
		}
	}
	if made < 500 || refused < 50 {
		t.Errorf("%d are made, and %d are not", made, refused)
	}
}

// TestPreimagesTakeWhatIsRewrittenToWhatIsTaken also checks words of which more
// than MaxWord symbols are written.
func TestPreimagesTakeWhatIsRewrittenToWhatIsTaken(t *testing.T) {
	words := slices.Concat(wordsOf(3), randomWords(1), []string{"", "([a)b]", "]a)(b[", "))((", "([[a]]b", strings.Repeat("(a", 8) + strings.Repeat(")]", 9)})
	counts := map[bool]int{}
	for i, r := range structuralRewriters() {
		written := map[string]string{}
		for _, w := range words {
			written[w] = writtenFor(r, w)
		}
		for k, c := range imageCheckers() {
			in, code := impl.PreimageChecker(r, c)
			if code != impl.OK || (i+k)%2 > 0 {
				continue
			}
			for n, w := range words {
				if (n+i+k)%3 > 0 {
					continue
				}
				want := takesByPlaces(c, written[w])
				takes, two := impl.Takes(in, w)
				if takes != want || two != impl.OK {
					t.Fatalf("%d, %d and %q: got %v and the code %d, want %v of %q", i, k, w, takes, two, want, written[w])
				}
				counts[want]++
			}
		}
	}
	if counts[true] < 10000 || counts[false] < 10000 {
		t.Errorf("the words are %v", counts)
	}
}

func TestKnownPreimages(t *testing.T) {
	matched, kinds := impl.MatchedChecker(), impl.KindsChecker()
	fix, swap := impl.FixRewriter(), made(impl.RenameRewriter("[(])ba"))
	fixed, one := impl.PreimageChecker(fix, kinds)
	expect(t, "each word is fixed", "0", one)
	expectTakes(t, "each word is fixed", fixed, shortWords(), func(string) bool { return true })
	for _, r := range []impl.Rewriter{fix, swap, impl.IdentityRewriter(), made(impl.DropRewriter("a"))} {
		in, code := impl.PreimageChecker(r, matched)
		expect(t, "matched words", "0", code)
		expectTakes(t, "matched words", in, shortWords(), func(w string) bool { return coreByCancelling(w) == "" })
	}
	even, _ := impl.CountChecker("a", 2)
	half, two := impl.PreimageChecker(made(impl.ThinRewriter("a")), even)
	expect(t, "every second one", "0 4 1", two, len(half.Accept), half.Stack)
	expectTakes(t, "every second one", half, shortWords(), func(w string) bool { return strings.Count(w, "a")/2%2 == 0 })
	for i, c := range imageCheckers() {
		same, code := impl.PreimageChecker(impl.IdentityRewriter(), c)
		expectChecker(t, told("the identity and", i), impl.CheckerText(c), same, code)
	}
}

func TestPreimageLimits(t *testing.T) {
	for size, want := range map[[4]int64]int64{
		{8, 8, 5, 10}: impl.OK, {1, 1, 40, 80}: impl.OK, {5, 4, 8, 20}: impl.OK, {8, 1, 5, 80}: impl.OK, {1, 8, 40, 10}: impl.OK, {4, 5, 10, 16}: impl.OK,
		{8, 1, 6, 1}: impl.ErrLimit, {7, 1, 6, 1}: impl.ErrLimit, {6, 1, 7, 1}: impl.ErrLimit, {2, 1, 21, 1}: impl.ErrLimit, {3, 1, 14, 1}: impl.ErrLimit,
		{1, 3, 1, 27}: impl.ErrLimit, {1, 8, 1, 11}: impl.ErrLimit, {1, 2, 1, 41}: impl.ErrLimit, {8, 8, 40, 80}: impl.ErrLimit, {8, 3, 5, 27}: impl.ErrLimit, {3, 8, 14, 10}: impl.ErrLimit,
	} {
		l := lottery(311)
		r, c := l.structural(size[0], size[1], impl.MaxOut), l.checker(size[2], size[3])
		in, code := impl.PreimageChecker(r, c)
		if want != impl.OK {
			expectError(t, told(size), want, code, in)
			continue
		}
		expectChecker(t, told(size), impl.CheckerText(preimageByPairs(r, c)), in, code)
		expect(t, told(size), told(size[0]*size[2], size[1]*size[3]), len(in.Accept), in.Stack)
	}
}
