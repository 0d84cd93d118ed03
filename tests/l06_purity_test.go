package tests

import (
	"slices"
	"strings"
	"testing"

	"loop.example/g01145/impl"
)

// resultsOfRewriters calls each function of the chapter that has rewriters as
// arguments, and returns all results.
func resultsOfRewriters(r, s impl.Rewriter, c impl.Checker, w string, state int64, stack []int64) []any {
	text, one := impl.Rewrite(r, w)
	to, left, on, two := impl.RewriteOn(r, state, stack, w)
	structural, three := impl.IsStructural(r)
	both, four := impl.ComposeRewriters(r, s)
	in, five := impl.PreimageChecker(r, c)
	return []any{impl.ValidRewriter(r), impl.SameRewriter(r, s), text, one, to, left, on, two, structural, three, both, four, in, five}
}

// resultsOfTexts calls the other functions that return rewriters.
func resultsOfTexts(text string) []any {
	renamed, one := impl.RenameRewriter(text)
	drop, two := impl.DropRewriter(text)
	thin, three := impl.ThinRewriter(text)
	unwrap, four := impl.UnwrapRewriter(text)
	return []any{impl.IdentityRewriter(), impl.FixRewriter(), renamed, one, drop, two, thin, three, unwrap, four}
}

func resultsOfEdits(w string, list []impl.TreeEdit) []any {
	last, made, one := impl.EditTrees(w, list)
	results := []any{last, made, one}
	for _, e := range list {
		text := impl.TreeEditText(e)
		read, two := impl.ReadTreeEdit(text)
		other, three := impl.ReadTreeEdit(w)
		edited, four := impl.EditTree(w, e)
		back, five := impl.UndoTreeEdit(w, e)
		results = append(results, impl.ValidTreeEdit(e), text, read, two, other, three, edited, four, back, five)
	}
	return results
}

// roomyRewriter returns a rewriter with unused capacity behind all lists.
func roomyRewriter(r impl.Rewriter) impl.Rewriter {
	r = copiedRewriter(r)
	push, move := impl.OutPush{To: -77, Put: -77, Out: "?"}, impl.OutMove{To: -77, Out: "?"}
	for state, pushes := range r.Call {
		r.Call[state] = roomy(pushes, push)
	}
	for state, lists := range r.Return {
		for kind, list := range lists {
			lists[kind] = roomy(list, move)
		}
		r.Return[state] = roomy(lists, nil)
	}
	for state, list := range r.Inner {
		r.Inner[state] = roomy(list, move)
	}
	r.Call, r.Return, r.Inner = roomy(r.Call, nil), roomy(r.Return, nil), roomy(r.Inner, nil)
	return r
}

func TestFunctionsOfRewritersArePure(t *testing.T) {
	t.Parallel()
	l := lottery(317)
	list := slices.Concat(sampleRewriters(), brokenRewriters())
	others, checkers := knownRewriters(), imageCheckers()
	words := append(randomWords(1)[:40], "(a[b])", "([b)", "c", strings.Repeat("a", impl.MaxWord+1), strings.Repeat(")", 10), strings.Repeat("(", 10))
	for i, r := range list {
		r, s, c := roomyRewriter(r), roomyRewriter(others[i%len(others)]), roomyChecker(checkers[i%len(checkers)])
		w := words[l.below(int64(len(words)))]
		state, stack := l.below(3), roomyNumbers(l.list(l.below(5), 2))
		before := withUnused(r, s, c, stack)
		first, crossed := resultsOfRewriters(r, s, c, w, state, stack), resultsOfRewriters(s, r, c, w, state, stack)
		second := resultsOfRewriters(copiedRewriter(r), copiedRewriter(s), copied(c), strings.Clone(w), state, slices.Clone(stack))
		if withUnused(r, s, c, stack) != before {
			t.Fatalf("%d and %q: an argument is modified", i, w)
		}
		if told(first...) != told(second...) {
			t.Fatalf("%d and %q: equal arguments have other results", i, w)
		}
		checkApart(t, slices.Concat([]any{r, s, c, stack}, first, crossed))
	}
}

func TestFunctionsThatMakeRewritersArePure(t *testing.T) {
	for _, text := range slices.Concat(strings.Split(symbols, ""), []string{"", "c", "([)]ab", "[(])ba", "((]]aa"}) {
		first, second := resultsOfTexts(text), resultsOfTexts(strings.Clone(text))
		expect(t, text, told(first...), second...)
		checkApart(t, append(first, second...))
	}
	// What has been returned can be changed, and is not returned again.
	for _, r := range knownRewriters() {
		r.Call[0][0], r.Return[0][1][0], r.Inner[0][1] = impl.OutPush{To: 7, Put: 7, Out: "?"}, impl.OutMove{To: 7, Out: "?"}, impl.OutMove{To: 7, Out: "?"}
	}
	for i, r := range knownRewriters() {
		expect(t, told("the known rewriter", i), "true", impl.ValidRewriter(r))
	}
}

func TestFunctionsOfEditsArePure(t *testing.T) {
	t.Parallel()
	l := lottery(331)
	valid, broken := slices.Concat(shortEdits(), sampleEdits()), brokenEdits()
	words := slices.Concat(textsUpTo(3), randomWords(1), []string{"c", "put 0 -", "wrap 1 2 ()", strings.Repeat("a", impl.MaxWord+1)})
	for i, w := range words {
		var list []impl.TreeEdit
		for range l.below(20) {
			list = append(list, valid[l.below(int64(len(valid)))])
		}
		if i%5 == 0 {
			list = append(list, broken[l.below(int64(len(broken)))])
		}
		list = roomy(list, impl.TreeEdit{Kind: -77, Text: "?"})
		before := withUnused(list)
		first, second := resultsOfEdits(w, list), resultsOfEdits(strings.Clone(w), slices.Clone(list))
		if withUnused(list) != before {
			t.Fatalf("%q and %v: an argument is modified", w, list)
		}
		if told(first...) != told(second...) {
			t.Fatalf("%q and %v: equal arguments have other results", w, list)
		}
	}
}

// TestStacksAreNotKept changes stacks behind a call, and reads again.
func TestStacksAreNotKept(t *testing.T) {
	stack := []int64{1, 0, 1}
	_, first, _, one := impl.RewriteOn(impl.FixRewriter(), 0, stack, "[))]")
	_, second, _, two := impl.RewriteOn(impl.FixRewriter(), 0, stack, "")
	first[0], second[0], second[2] = 0, 0, 0
	state, third, text, three := impl.RewriteOn(impl.FixRewriter(), 0, stack, ")(")
	expect(t, "stacks", "[1 0 1] [0] [0 0 0] 0 [1 0 0] ]( 0 0 0", stack, first, second, state, third, text, one, two, three)
}

func TestLargeRewritersComeBack(t *testing.T) {
	const most = 1000000
	text, moves := strings.Repeat("a", most), make([]impl.OutMove, most/4)
	whole := impl.IdentityRewriter()
	for i, large := range []impl.Rewriter{
		{Stack: 1, Call: make([][]impl.OutPush, most)}, {Stack: 1, Return: make([][][]impl.OutMove, most)}, {Stack: 1, Inner: make([][]impl.OutMove, most)},
		{Stack: most / 4, Call: whole.Call, Return: [][][]impl.OutMove{{moves, moves}}, Inner: whole.Inner}, {Stack: 1, Call: whole.Call, Return: [][][]impl.OutMove{{moves, moves}}, Inner: whole.Inner},
		{Stack: 1, Call: [][]impl.OutPush{make([]impl.OutPush, most/4)}, Return: whole.Return, Inner: whole.Inner}, {Stack: 1, Call: whole.Call, Return: [][][]impl.OutMove{make([][]impl.OutMove, most)}, Inner: whole.Inner},
		{Stack: 1, Call: make([][]impl.OutPush, most/4), Return: make([][][]impl.OutMove, most/4), Inner: make([][]impl.OutMove, most/4)}, sameTexts("(", "[", ")", "]", text, "b"), sameTexts("(", "[", text, "]", "a", "b"),
	} {
		if impl.ValidRewriter(large) || !impl.SameRewriter(large, copiedRewriter(large)) {
			t.Errorf("%d: a large rewriter is the same as its copy, and not valid", i)
		}
		for _, results := range [][]any{resultsOfRewriters(large, whole, impl.MatchedChecker(), "()", 0, nil), resultsOfRewriters(whole, large, impl.MatchedChecker(), "()", 0, nil)} {
			expect(t, "a large argument", "false", results[1])
		}
	}
	state, stack, out, code := impl.RewriteOn(whole, 0, make([]int64, most), "")
	expectError(t, "a large stack", impl.ErrRange, code, state, stack, out)
	for _, long := range []string{text, strings.Repeat(" ", most), strings.Repeat("put 0 ", most/6), "put 0 " + text[:most-6], "wrap " + strings.Repeat("1", most-5), strings.Repeat("()", most/2), "cut" + strings.Repeat(" 0", most/2-2)} {
		e, code := impl.ReadTreeEdit(long)
		expectError(t, "a large text", impl.ErrSyntax, code, e)
		for _, result := range resultsOfTexts(long)[2:] {
			expect(t, "a large text", "true", told(result) == "2" || told(result) == told(impl.Rewriter{}))
		}
	}
	last, made, code := impl.EditTrees("", slices.Repeat([]impl.TreeEdit{putAt(0, "()")}, most/6))
	expectError(t, "a large list", impl.ErrRange, code, last, made)
}
