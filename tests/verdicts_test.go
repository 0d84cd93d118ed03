package tests

import (
	"slices"
	"strings"
	"testing"

	"loop.example/g01145/impl"
)

// judge is one of the ways to come to the verdict of a matched word.
type judge struct {
	name  string
	takes func(w string) (bool, int64)
}

func takenBy(c impl.Checker) func(w string) (bool, int64) {
	return func(w string) (bool, int64) { return impl.Takes(c, w) }
}

// takenByDesk cuts words into pieces, which are sent, lost, copied and saved, and
// has all of them come in at last.
func takenByDesk(l *lottery, c impl.Checker) func(w string) (bool, int64) {
	return func(w string) (bool, int64) {
		v := streamOf(c, l.cutInto(w, 1+l.below(impl.MaxPieces))...)
		deeds := l.deeds(v, l.below(40))
		plan, one := impl.FinishDeeds(v, deeds)
		verdict, two := impl.VerdictAfter(v, append(deeds, plan...))
		if verdict != impl.VdTakes && verdict != impl.VdRefuses {
			return false, -1
		}
		return verdict == impl.VdTakes, one + two
	}
}

// takenByScript has the pieces of a word come in, the last one first.
func takenByScript(l *lottery, c impl.Checker) func(w string) (bool, int64) {
	return func(w string) (bool, int64) {
		v := streamOf(c, l.cutInto(w, 1+l.below(impl.MaxPieces))...)
		var text strings.Builder
		for number := len(v.Pieces) - 1; number >= 0; number-- {
			text.WriteString(told("send", number, number) + "\ncopy 0\nsave\ndrop 0\ncrash\n")
		}
		answers, code := impl.RunScript(v, text.String()+"verdict\n")
		if code == impl.OK && !strings.HasSuffix(answers, "\n1\n") && !strings.HasSuffix(answers, "\n2\n") {
			return false, -1
		}
		return strings.HasSuffix(answers, "\n1\n"), code
	}
}

// judgesOf returns the ways that there are for a checker.
func judgesOf(l *lottery, c impl.Checker) []judge {
	list := []judge{{"the checker", takenBy(c)}, {"a desk", takenByDesk(l, c)}}
	if c.Stack < 10 {
		list = append(list, judge{"a script", takenByScript(l, c)})
	}
	add := func(name string, code int64, takes func(w string) (bool, int64)) {
		if code == impl.OK {
			list = append(list, judge{name, takes})
		}
	}
	m, one := impl.ChoicesOf(c)
	add("its choices", one, func(w string) (bool, int64) { return impl.ChoicesTake(m, w) })
	again, two := impl.CheckerOf(m)
	add("the checker of its choices", two, takenBy(again))
	all, three := impl.AlgebraOf(c)
	add("its algebra", three, func(w string) (bool, int64) { return impl.AlgebraTakes(all, w) })
	least, four := impl.LeastAlgebra(c)
	add("its least algebra", four, func(w string) (bool, int64) { return impl.AlgebraTakes(least, w) })
	other, five := impl.CheckerOfAlgebra(least)
	add("the checker of its least algebra", five, takenBy(other))
	add("a desk with the checker of its least algebra", five, takenByDesk(l, other))
	same, six := impl.PreimageChecker(impl.IdentityRewriter(), c)
	add("its preimage of what is not changed", six, takenBy(same))
	return list
}

// judgedCheckers returns checkers for most of which there are all ways.
func judgedCheckers() []impl.Checker {
	return slices.Concat(choiceCheckers(), learnableCheckers()[:60], smallCheckers(), badCheckers()[:40], imageCheckers())
}

// checkVerdicts checks that all ways come to one verdict, and counts them.
func checkVerdicts(t *testing.T, name string, judges []judge, w string, want bool, counts map[string]int) {
	t.Helper()
	for _, j := range judges {
		takes, code := j.takes(w)
		if takes != want || code != impl.OK {
			t.Fatalf("%s, %s and %q: got %v and the code %d, want %v", name, j.name, w, takes, code, want)
		}
		counts[told(j.name, want)]++
	}
}

func expectOften(t *testing.T, names []string, counts map[string]int, least int) {
	t.Helper()
	for _, name := range names {
		for _, takes := range []bool{true, false} {
			if got := counts[told(name, takes)]; got < least {
				t.Errorf("%s has come to the verdict %v only %d times", name, takes, got)
			}
		}
	}
}

// TestMatchedWordsHaveOneVerdict judges short and long matched words in all ways.
func TestMatchedWordsHaveOneVerdict(t *testing.T) {
	t.Parallel()
	l := lottery(883)
	words := slices.Concat(shortMatched(2), matchedOnly(randomWords(10)), []string{"(a[b])", "[a)b(]", "(([]))", strings.Repeat("ab", 30), strings.Repeat("([])", 15), strings.Repeat("(", 30) + strings.Repeat("]", 30)})
	counts := map[string]int{}
	for i, c := range judgedCheckers() {
		judges := judgesOf(&l, c)
		for k, w := range words {
			if len(w) > 2 && (i+k)%4 > 0 {
				continue
			}
			checkVerdicts(t, told("the checker", i), judges, w, takesByPlaces(c, w), counts)
		}
	}
	expectOften(t, []string{
		"the checker", "a desk", "a script", "its choices", "the checker of its choices", "its algebra", "its least algebra", "the checker of its least algebra",
		"a desk with the checker of its least algebra", "its preimage of what is not changed",
	}, counts, 500)
}

// TestPreimagesHaveTheVerdictOfWhatIsWritten judges words by the preimage, and what
// is written for them by the checker, both in all ways.
func TestPreimagesHaveTheVerdictOfWhatIsWritten(t *testing.T) {
	t.Parallel()
	l := lottery(887)
	words := slices.Concat(shortMatched(2), []string{"(a[b])", "[a)b(]", "aab", "(([]))", "b(ab)a[a]", "([)(])ab"})
	counts := map[string]int{}
	for i, r := range structuralRewriters() {
		for k, c := range slices.Concat(smallCheckers(), choiceCheckers()[:8], badCheckers()[6:20]) {
			in, code := impl.PreimageChecker(r, c)
			if code != impl.OK || (i+k)%3 > 0 {
				continue
			}
			judges, others := judgesOf(&l, c), judgesOf(&l, in)
			for n, w := range words {
				written, code := impl.Rewrite(r, w)
				if code != impl.OK || len(w) > 2 && n%5 != i%5 {
					continue
				}
				want := takesByPlaces(c, written)
				checkVerdicts(t, told("the preimage", i, k), others, w, want, counts)
				checkVerdicts(t, told("behind the rewriter", i, k), judges, written, want, counts)
			}
		}
	}
	expectOften(t, []string{"the checker", "a desk", "a script", "its choices", "its least algebra", "a desk with the checker of its least algebra"}, counts, 500)
}

// TestOneWordInAllWays is an example that can be followed by hand: the number of "a"
// is even, and they are read one by one.
func TestOneWordInAllWays(t *testing.T) {
	c := counting("a", 2)
	for w, want := range map[string]bool{"(a[a])b": true, "(a[b])b": false, "": true, "a": false} {
		takes, one := impl.Takes(c, w)
		m, two := impl.ChoicesOf(c)
		chosen, three := impl.ChoicesTake(m, w)
		a, four := impl.LeastAlgebra(c)
		element, five := impl.AlgebraTakes(a, w)
		renamed, six := impl.PreimageChecker(made(impl.RenameRewriter("[(])ba")), c)
		before, seven := impl.Takes(renamed, strings.NewReplacer("a", "b", "b", "a", "(", "[", "[", "(", ")", "]", "]", ")").Replace(w))
		pieces := append(strings.Split(w, ""), "")
		v := streamOf(c, pieces...)
		order := firstNumbers(int64(len(pieces)))
		slices.Reverse(order)
		verdict, eight := impl.VerdictAfter(v, deliveries(order))
		expect(t, w, told(want, want, want, want, want, 0, 0, 0, 0, 0, 0, 0, 0), takes, chosen, element, before, verdict == impl.VdTakes, one, two, three, four, five, six, seven, eight)
		if len(pieces) > 1 {
			open, nine := impl.VerdictAfter(v, deliveries(order[:len(order)-1]))
			expect(t, "without the first one", told(impl.VdOpen, 0), open, nine)
		}
	}
}
