package tests

import (
	"slices"
	"strings"
	"sync"
	"testing"

	"loop.example/g01145/impl"
)

// resultsOfPrograms calls each function of the chapter that has programs as
// arguments, and returns all results.
func resultsOfPrograms(p, q impl.Program, c impl.Checker, w string, run []int64, module, s, to int64) []any {
	word, place, one := impl.RunProgram(p, run)
	choices, two := impl.ChoicesAt(p, run)
	takes, three := impl.ProgramTakes(p, w)
	writing, four := impl.RunOfWord(p, w)
	between, five := impl.FirstBetween(p, module, s, to)
	first, six := impl.FirstOfModule(p, module)
	reached, seven := impl.ReachedNodes(p)
	last, eight := impl.FirstTo(p, module, to)
	count, nine := impl.CountProgramWords(p, int64(len(w)%7))
	bad, ten := impl.FirstBad(p, c)
	safe, eleven := impl.IsSafe(p, c)
	return []any{impl.ValidProgram(p), impl.SameProgram(p, q), impl.ProgramText(p), word, place, one, choices, two, takes, three, writing, four,
		between, five, first, six, reached, seven, last, eight, count, nine, bad, ten, safe, eleven}
}

// roomyProgram returns a program with unused capacity behind all lists.
func roomyProgram(p impl.Program) impl.Program {
	p = copiedProgram(p)
	filler := impl.Link{From: -77, To: -77, Act: "?", Module: -77}
	for i, m := range p.Modules {
		p.Modules[i].Links = roomy(m.Links, filler)
	}
	p.Modules = roomy(p.Modules, impl.Module{Nodes: -77})
	return p
}

func TestFunctionsOfProgramsArePure(t *testing.T) {
	t.Parallel()
	l := lottery(769)
	samples, checkers := samplePrograms(), badCheckers()
	broken := slices.DeleteFunc(brokenPrograms(), func(p impl.Program) bool { return len(told(p)) > 1000 })
	words := append(randomWords(1)[:20], "", "a", "(a)", "(a)b", "((a)b)b", "ab", "()", "[]", "c", strings.Repeat("a", impl.MaxWord+1))
	for i, p := range slices.Concat(samples, broken) {
		p, q, c := roomyProgram(p), roomyProgram(samples[i%20]), roomyChecker(checkers[i%len(checkers)])
		w, module, s, to := words[l.below(int64(len(words)))], l.below(3), l.below(4), l.below(4)
		run := roomyNumbers(l.list(l.below(4), 3))
		if i < len(samples) {
			run = roomyNumbers(sampleRuns(&l, p, int(l.below(50))))
			if taken := wordsOfRuns(&l, p, 3); len(taken) > 0 && i%2 == 0 {
				w = taken[0]
			}
		}
		before := withUnused(p, q, c, run)
		first, crossed := resultsOfPrograms(p, q, c, w, run, module, s, to), resultsOfPrograms(q, p, c, w, run, module, to, s)
		second := resultsOfPrograms(copiedProgram(p), copiedProgram(q), copied(c), strings.Clone(w), slices.Clone(run), module, s, to)
		if withUnused(p, q, c, run) != before {
			t.Fatalf("%d and %q: an argument is modified", i, w)
		}
		if told(first...) != told(second...) {
			t.Fatalf("%d and %q: equal arguments have other results", i, w)
		}
		checkApart(t, slices.Concat([]any{p, q, c, run}, first, crossed))
	}
}

func TestTextsOfProgramsArePure(t *testing.T) {
	for _, p := range samplePrograms() {
		text := textOfProgram(p)
		first, one := impl.ReadProgram(text)
		second, two := impl.ReadProgram(strings.Clone(text))
		expect(t, text, told(first, one), second, two)
		checkApart(t, []any{first, second})
		// What has been returned can be changed, and is not returned again.
		for i := range second.Modules {
			second.Modules[i].Nodes = 77
			for k := range second.Modules[i].Links {
				second.Modules[i].Links[k] = impl.Link{From: 77, Act: "?"}
			}
		}
		third, three := impl.ReadProgram(text)
		expectProgram(t, text, p, third, three)
		expectProgram(t, text, p, first, one)
	}
}

func TestPlacesAreNotKept(t *testing.T) {
	p, run := programOf(ring("()0", "a")), []int64{0, 0, 1}
	for range 2 {
		_, place, _ := impl.RunProgram(p, run)
		choices, _ := impl.ChoicesAt(p, run)
		reached, _ := impl.ReachedNodes(p)
		writing, _ := impl.RunOfWord(p, "(a)")
		expect(t, "results", "{0 0 [[0 0] [0 0]]} [-1 0 1] [[0]] [0 1 -1]", place, choices, reached, writing)
		place.Open[0][0], place.Open[1], choices[0], reached[0][0], writing[0] = 77, nil, 77, 77, 77
	}
	expect(t, "the choices", "[0 0 1]", run)
}

// TestProgramsAtTheSameTime calls all functions from many goroutines at once.
func TestProgramsAtTheSameTime(t *testing.T) {
	list := samplePrograms()[:40]
	c := counting("a", 3)
	want := make([]string, len(list))
	for i, p := range list {
		want[i] = told(resultsOfPrograms(p, p, c, "(a)", []int64{0, 0}, 0, 0, 0)...)
	}
	var workers sync.WaitGroup
	for range 8 {
		workers.Go(func() {
			for i, p := range list {
				expect(t, "at the same time", want[i], resultsOfPrograms(p, p, c, "(a)", []int64{0, 0}, 0, 0, 0)...)
			}
		})
	}
	workers.Wait()
}

func TestLargeProgramsComeBack(t *testing.T) {
	const most = 1000000
	whole, c, long := chapterProgram(), impl.MatchedChecker(), strings.Repeat("a", most)
	for i, large := range []impl.Program{
		{Modules: make([]impl.Module, most/2)}, {Modules: slices.Repeat(programOf(ring()).Modules, most/2)}, programOf(impl.Module{Nodes: 1, Links: make([]impl.Link, most/4)}),
		programOf(impl.Module{Nodes: 1, Links: slices.Repeat(ring("a").Links, most/4)}), programOf(ring(), impl.Module{Nodes: most}), programOf(impl.Module{Nodes: 1, Links: []impl.Link{{Act: long}}}),
		programOf(impl.Module{Nodes: 1, Links: []impl.Link{{Act: strings.Repeat("()", most/2)}}}), {Modules: slices.Repeat(whole.Modules, most/20)},
	} {
		if impl.ValidProgram(large) || !impl.SameProgram(large, copiedProgram(large)) || impl.SameProgram(large, whole) {
			t.Errorf("%d: a large program is the same as its copy, and not valid", i)
		}
		for _, results := range [][]any{resultsOfPrograms(large, whole, c, "a", nil, 0, 0, 0), resultsOfPrograms(whole, large, c, "a", nil, 0, 0, 0)} {
			expect(t, "a large argument", "false", results[1])
		}
		expectInvalidProgram(t, large, 0)
		expectInvalidChecking(t, large, c)
	}
	expectInvalidWriting(t, whole, long)
	word, place, one := impl.RunProgram(whole, make([]int64, most))
	expectError(t, "a long list", impl.ErrRange, one, word, place)
	choices, two := impl.ChoicesAt(whole, make([]int64, most))
	expectError(t, "a long list", impl.ErrRange, two, choices)
	for _, text := range []string{long, strings.Repeat("\n", most), strings.Repeat("module 1\n", most/9), "module " + strings.Repeat("1", most-8) + "\n", strings.Repeat(" ", most)} {
		p, code := impl.ReadProgram(text)
		expectError(t, "a large text", impl.ErrRange, code, p)
	}
}
