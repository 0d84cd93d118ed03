package tests

import (
	"slices"
	"strings"
	"sync"
	"testing"

	"loop.example/g01145/impl"
)

// resultsOfStreams calls each function of the chapter that has streams or checkers as
// arguments, and returns all results.
func resultsOfStreams(v impl.Stream, deeds []impl.Deed, text string) []any {
	whole, one := impl.WholeOf(v)
	lost, two := impl.LostStates(v.Checker)
	p, done, three := impl.PlantAfter(v, deeds)
	refused, code, four := impl.RefusedDeed(v, deeds)
	verdict, five := impl.VerdictAfter(v, deeds)
	missing, six := impl.MissingAfter(v, deeds)
	depth, seven := impl.DepthAfter(v, deeds)
	plan, eight := impl.FinishDeeds(v, deeds)
	answers, nine := impl.RunScript(v, text)
	return []any{impl.ValidStream(v), whole, one, lost, two, p, done, three, refused, code, four, verdict, five, missing, six, depth, seven, plan, eight, answers, nine}
}

// resultsOfDeeds calls the other functions of the chapter.
func resultsOfDeeds(d impl.Deed, text string) []any {
	read, one := impl.ReadDeed(text)
	again, two := impl.ReadDeed(impl.DeedText(d))
	return []any{impl.ValidDeed(d), impl.DeedText(d), read, one, again, two}
}

// roomyStream returns a stream with unused capacity behind all lists.
func roomyStream(v impl.Stream) impl.Stream {
	return impl.Stream{Checker: roomyChecker(v.Checker), Pieces: roomy(v.Pieces, "?")}
}

func roomyDeeds(list []impl.Deed) []impl.Deed {
	return roomy(list, impl.Deed{Kind: -77, A: -77, B: -77})
}

func TestFunctionsOfStreamsArePure(t *testing.T) {
	t.Parallel()
	l := lottery(877)
	samples, noDeeds := sampleStreams(), brokenDeeds()
	broken := slices.DeleteFunc(brokenStreams(), func(v impl.Stream) bool { return len(told(v)) > 1000 })
	for i, v := range slices.Concat(samples, broken) {
		list := []impl.Deed{send(0, 1), send(0, 0), deed(impl.DdDeliver, 1), deed(impl.DdSave, 0)}
		if i < len(samples) {
			list = l.deeds(v, l.below(60))
		}
		if i%10 == 9 {
			list = append(list, noDeeds[i%len(noDeeds)])
		}
		v, deeds := roomyStream(v), roomyDeeds(list)
		text := "desk\nverdict\nmissing"
		for _, d := range list {
			text = textOfDeed(d) + "\n" + text
		}
		before := withUnused(v, deeds)
		first, crossed := resultsOfStreams(v, deeds, text), resultsOfStreams(v, deeds[:len(deeds)/2], "missing")
		second := resultsOfStreams(copiedStream(v), slices.Clone(list), strings.Clone(text))
		if withUnused(v, deeds) != before {
			t.Fatalf("%v and %v: an argument is modified", v.Pieces, list)
		}
		if told(first...) != told(second...) {
			t.Fatalf("%v and %v: equal arguments have other results", v.Pieces, list)
		}
		checkApart(t, slices.Concat([]any{v, deeds}, first, crossed))
	}
}

// TestPlantsAreApart has one parcel on the wire several times, and one desk that is
// saved, is at work, and is told.
func TestPlantsAreApart(t *testing.T) {
	v := roomyStream(streamOf(impl.MatchedChecker(), "((", "(a", ")", ")("))
	deeds := deedsOf("send 0 3; send 0 3; send 2 3; send 0 0; deliver 2; deliver 2; save; copy 0; crash; save")
	p, done, one := impl.PlantAfter(v, deeds)
	q, _, _ := impl.PlantAfter(v, deeds)
	checkApart(t, []any{v, p, q})
	want := "{{1 1 [0 1] [2 3]} {1 1 [0 1] [2 3]} [{0 [(( (a ) )(]} {0 [(( (a ) )(]}]}"
	expect(t, "the plant", told(want, 10, 0), p, done, one)
	// What has been returned can be changed, and is not returned again.
	p.Desk.Stack[0], p.Desk.Waiting[0], p.Saved.Stack[1], p.Wire[0].Texts[1] = 77, 77, 77, "?"
	p.Wire[1].Texts = append(p.Wire[1].Texts[:1], "?", "?", "?")
	p.Wire[1] = impl.Parcel{}
	again, _, _ := impl.PlantAfter(v, deeds)
	expect(t, "the plant", told(want, want), q, again)
	expect(t, "the pieces", "[(( (a ) )(]", v.Pieces)
	plan, _ := impl.FinishDeeds(v, deeds)
	plan[0] = impl.Deed{}
	other, _ := impl.FinishDeeds(v, deeds)
	expect(t, "the plan", told(deedsOf("drop 0; drop 0; send 1 1; deliver 0; save")), other)
}

func TestTextsOfDeedsArePure(t *testing.T) {
	for _, d := range slices.Concat(sampleDeeds(), brokenDeeds()) {
		for _, text := range []string{"", "save", "send 1 2", "drop 999", "drop 1000", textOfDeed(deed(impl.DdCopy, 5))} {
			expect(t, text, told(resultsOfDeeds(d, text)...), resultsOfDeeds(d, strings.Clone(text))...)
		}
	}
}

// TestStreamsAtTheSameTime calls all functions from many goroutines at once.
func TestStreamsAtTheSameTime(t *testing.T) {
	l := lottery(881)
	v := streamOf(impl.KindsChecker(), "([(", ")]", "[[", ")))", "[")
	var lists [][]impl.Deed
	var want []string
	for range 30 {
		deeds := roomyDeeds(l.deeds(v, 40))
		lists = append(lists, deeds)
		want = append(want, told(resultsOfStreams(v, deeds, "send 0 1\ndeliver 0\ndesk")...))
	}
	var workers sync.WaitGroup
	for range 8 {
		workers.Go(func() {
			for i, deeds := range lists {
				expect(t, "at the same time", want[i], resultsOfStreams(v, deeds, "send 0 1\ndeliver 0\ndesk")...)
			}
		})
	}
	workers.Wait()
}

func TestLargeStreamsComeBack(t *testing.T) {
	const most = 1000000
	v, long := chapterStream(), strings.Repeat("a", most)
	for _, large := range []impl.Stream{
		streamOf(impl.MatchedChecker(), make([]string, most)...), streamOf(impl.MatchedChecker(), slices.Repeat([]string{"a"}, most)...), streamOf(impl.MatchedChecker(), slices.Repeat([]string{long[:60]}, most/60)...),
		streamOf(impl.MatchedChecker(), long), streamOf(impl.MatchedChecker(), slices.Repeat([]string{long[:most/20]}, impl.MaxPieces)...), streamOf(impl.MatchedChecker(), "a", "b", strings.Repeat("(", most)),
		streamOf(impl.Checker{Stack: 1, Accept: make([]bool, most)}, "a"), streamOf(impl.Checker{Stack: 1, Call: make([][]impl.Push, most)}, "a"),
	} {
		expect(t, "a large stream", "false", impl.ValidStream(large))
		expectNothingAfter(t, impl.ErrInvalid, large, nil)
		whole, one := impl.WholeOf(large)
		expectError(t, "WholeOf", impl.ErrInvalid, one, whole)
		answers, two := impl.RunScript(large, "desk")
		expectError(t, "RunScript", impl.ErrInvalid, two, answers)
	}
	expectNothingAfter(t, impl.ErrRange, v, slices.Repeat([]impl.Deed{send(0, 2)}, most/3))
	expectNothingAfter(t, impl.ErrInvalid, v, make([]impl.Deed, most/3))
	for _, text := range []string{long, strings.Repeat("\n", most), strings.Repeat(" ", most), strings.Repeat("save\n", most/5), "send " + strings.Repeat("1", most-5), "drop " + strings.Repeat("1 ", most/2-3), strings.Repeat("0 ", most/2)} {
		d, one := impl.ReadDeed(text)
		expectError(t, "a large text", impl.ErrSyntax, one, d)
		answers, two := impl.RunScript(v, text)
		expectError(t, "a large text", impl.ErrRange, two, answers)
		short, three := impl.RunScript(v, strings.ReplaceAll(text[:impl.MaxScriptText], "\n", "-"))
		expect(t, "a text that is not too large", told("what\n", 0), short, three)
	}
}
