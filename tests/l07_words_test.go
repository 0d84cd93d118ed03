package tests

import (
	"math"
	"slices"
	"strings"
	"testing"

	"loop.example/g01145/impl"
)

// checkWriting compares the run of a word with the first one that is found by
// trying all choices, and with what it writes. It returns whether there is one.
func checkWriting(t *testing.T, p impl.Program, w string) bool {
	t.Helper()
	want, found := firstRunByTrying(p, w, lead{}, map[lead]bool{})
	takes, one := impl.ProgramTakes(p, w)
	run, two := impl.RunOfWord(p, w)
	expect(t, told("ProgramTakes", p, w), told(found, 0), takes, one)
	if !found {
		expectError(t, told("RunOfWord", p, w), impl.ErrNotFound, two, run)
		return false
	}
	expect(t, told("RunOfWord", p, w), told(want, 0), run, two)
	word, place, three := impl.RunProgram(p, run)
	expect(t, told("RunProgram", p, run), told(w, impl.Place{Node: exitOf(p, 0)}, 0), word, place, three)
	return true
}

// smallPrograms returns programs with few enough runs to look at all short ones.
func smallPrograms() []impl.Program {
	l := lottery(719)
	list := specialPrograms()
	for i := range int64(40) {
		list = append(list, l.program(1+i%3, 1+i%4, 3+i%4, 1+i%6), l.lines(1+i%4, 1+i%3))
	}
	return list
}

// shortsOf returns how long the words of a program are all of which a test looks
// at.
func shortsOf(p impl.Program, most int) []spelt {
	for ; most > 0; most-- {
		if list := speltUpTo(p, spot{}, most); len(list) < 3000 {
			return list
		}
	}
	return speltUpTo(p, spot{}, 0)
}

func TestProgramsTakeTheWordsOfRuns(t *testing.T) {
	t.Parallel()
	taken := 0
	for _, p := range smallPrograms() {
		list := shortsOf(p, 7)
		for i, u := range list {
			complete := slices.ContainsFunc(u.spots, func(x spot) bool { return isComplete(p, x) })
			takes, code := impl.ProgramTakes(p, u.word)
			if takes != complete || code != impl.OK {
				t.Fatalf("%v and %q: got %v and the code %d", p, u.word, takes, code)
			}
			if complete || i%7 == 0 {
				checkWriting(t, p, u.word)
			}
			if complete {
				taken++
			}
		}
	}
	if taken < 2000 {
		t.Errorf("%d words are taken", taken)
	}
}

// TestProgramsTakeNoOtherWords looks at all short words, whether runs write them
// or not.
func TestProgramsTakeNoOtherWords(t *testing.T) {
	t.Parallel()
	for i, p := range smallPrograms() {
		written := map[string]bool{}
		for _, u := range speltUpTo(p, spot{}, 4) {
			written[u.word] = slices.ContainsFunc(u.spots, func(x spot) bool { return isComplete(p, x) })
		}
		for _, w := range allShort()[:259+(i%4/3)*1296] {
			takes, code := impl.ProgramTakes(p, w)
			if takes != written[w] || code != impl.OK {
				t.Fatalf("%v and %q: got %v and the code %d", p, w, takes, code)
			}
			if written[w] {
				continue
			}
			run, code := impl.RunOfWord(p, w)
			expectError(t, told("RunOfWord", p, w), impl.ErrNotFound, code, run)
		}
	}
}

// wordsOfRuns returns words of complete runs that are chosen without a plan.
func wordsOfRuns(l *lottery, p impl.Program, tries int) []string {
	var words []string
	for range tries {
		var x spot
		text, most := "", 4+int(l.below(impl.MaxWord))
		for len(text) < impl.MaxWord && (len(text) < most || !isComplete(p, x)) {
			choices := x.choices(p)
			if len(choices) == 0 {
				break
			}
			choice := choices[l.below(int64(len(choices)))]
			if choices[0] == impl.GoBack && len(x.open)*2 > most-len(text) {
				choice = impl.GoBack
			}
			next, s := x.after(p, choice)
			x, text = next, text+string([]byte{s})
			if isComplete(p, x) {
				words = append(words, text)
			}
		}
	}
	return words
}

func TestLongWordsOfPrograms(t *testing.T) {
	t.Parallel()
	l := lottery(727)
	lengths := map[int]int{}
	for _, p := range samplePrograms() {
		words := wordsOfRuns(&l, p, 40)
		for i, w := range words {
			if i%(1+len(words)/15) > 0 {
				continue
			}
			if !checkWriting(t, p, w) {
				t.Fatalf("%v takes %q", p, w)
			}
			lengths[len(w)/20]++
			// The same word with another symbol is taken just if there is a run.
			if at := int(l.below(int64(len(w) + 1))); at < len(w) {
				checkWriting(t, p, w[:at]+symbols[l.below(6):][:1]+w[at+1:])
				checkWriting(t, p, w[:at]+w[at+1:])
			}
		}
	}
	if lengths[0] < 100 || lengths[1] < 30 || lengths[2] < 30 {
		t.Errorf("the lengths are %v", lengths)
	}
}

// TestFirstRuns has words with several runs.
func TestFirstRuns(t *testing.T) {
	for _, test := range []struct{ lines, word, want string }{
		{"module 2; link 0 1 a; link 0 1 a", "a", "[0]"},
		{"module 2; link 0 1 b; link 0 1 a; link 0 1 a", "a", "[1]"},
		{"module 3; link 0 1 a; link 0 2 a", "a", "[1]"}, // the first link leads nowhere
		{"module 3; link 0 1 a; link 0 1 a; link 1 2 b; link 1 2 b", "ab", "[0 2]"},
		{"module 3; link 1 2 b; link 1 2 b; link 0 1 a; link 0 1 a", "ab", "[2 0]"},
		{"module 4; link 0 1 a; link 0 2 a; link 1 3 a; link 2 3 b", "ab", "[1 3]"},
		{"module 4; link 0 1 a; link 0 2 a; link 1 3 b; link 2 3 b", "ab", "[0 2]"},
		{"module 4; link 0 2 a; link 0 1 a; link 1 3 b; link 2 3 b", "ab", "[0 3]"},
		{"module 2; link 0 0 a; link 0 1 a; link 1 1 a", "aaa", "[0 0 1]"},
		{"module 2; link 1 1 a; link 0 1 a; link 0 0 a", "aaa", "[1 0 0]"},
		{"module 2; link 0 1 () 1; link 0 1 () 1; module 1", "()", "[0 -1]"},
		{"module 2; link 0 1 () 2; link 0 1 () 1; module 1; module 1; link 0 0 a", "()", "[0 -1]"},
		{"module 2; link 0 1 () 2; link 0 1 () 1; module 1; module 2; link 0 1 a", "()", "[1 -1]"}, // one module has no empty word
		{"module 2; link 0 1 () 2; link 0 1 () 1; module 1; link 0 0 a; link 0 0 a; module 2; link 0 1 a; link 0 1 a", "(a)", "[0 0 -1]"},
		{"module 2; link 0 1 (] 1; link 0 1 () 1; module 1; link 0 0 a", "(a)", "[1 0 -1]"},                                      // the return is another one
		{"module 3; link 0 2 () 1; link 0 1 () 1; link 1 2 a; module 1; link 0 0 b; link 0 0 b", "(bb)a", "[1 0 0 -1 2]"},        // what is behind does not fit
		{"module 3; link 0 1 () 1; link 0 2 () 1; link 1 1 a; module 1; link 0 0 b; link 0 0 b", "(bb)", "[1 0 0 -1]"},           // no way to the exit
		{"module 1; link 0 0 () 0; link 0 0 () 0; link 0 0 a", "(()a)a()", "[0 0 -1 2 -1 2 0 -1]"},                               // all within one module
		{"module 1; link 0 0 () 1; link 0 0 () 0; module 1; link 0 0 () 0; link 0 0 a", "(()(a))", "[1 0 -1 0 1 -1 -1]"},         // the letter is in module 1 alone
		{"module 1; link 0 0 () 1; link 0 0 () 0; module 1; link 0 0 () 0; link 0 0 () 1; link 0 0 a", "((a))", "[0 1 2 -1 -1]"}, // the second one inside
	} {
		p := program(test.lines)
		found := checkWriting(t, p, test.word)
		run, code := impl.RunOfWord(p, test.word)
		if !found {
			expect(t, test.word, "[] 6", run, code)
			continue
		}
		expect(t, test.word, test.want+" 0", run, code)
	}
}

func TestEmptyWords(t *testing.T) {
	for _, p := range slices.Concat(samplePrograms(), []impl.Program{programOf(ring()), programOf(impl.Module{Nodes: 2}), programOf(ring("()1"), line("a"))}) {
		want := p.Modules[0].Nodes == 1
		expect(t, told(p), told(want), checkWriting(t, p, ""))
		count, code := impl.CountProgramWords(p, 0)
		expect(t, told(p), told(map[bool]int{true: 1}[want], 0), count, code)
	}
}

// TestWordsThatAreNotMatched gives words that runs write, but no complete ones.
func TestWordsThatAreNotMatched(t *testing.T) {
	everything := programOf(ring("()0", "(]0", "[)0", "[]0", "a", "b"))
	for _, w := range slices.Concat(allShort(), randomWords(10)) {
		matched := coreByCancelling(w) == ""
		takes, one := impl.ProgramTakes(everything, w)
		run, two := impl.RunOfWord(everything, w)
		expect(t, w, told(matched, 0, matched), takes, one, two == impl.OK)
		if !matched {
			expectError(t, w, impl.ErrNotFound, two, run)
		}
		if matched && len(run) != len(w) {
			t.Errorf("%q: got %v", w, run)
		}
	}
	for _, w := range matchedOnly(randomWords(20)) {
		checkWriting(t, everything, w)
	}
}

// TestLongestWords has words of exactly MaxWord symbols.
func TestLongestWords(t *testing.T) {
	p := program("module 2; link 0 1 () 0; link 0 1 a; link 1 1 b; link 0 1 [] 0")
	for depth := range impl.MaxWord/2 + 1 {
		tail := impl.MaxWord - 2*depth - 1
		if tail < 0 {
			continue
		}
		w := strings.Repeat("([", depth/2) + strings.Repeat("(", depth%2) + "a" + strings.Repeat(")", depth%2) + strings.Repeat("])", depth/2)
		for _, word := range []string{w, w + strings.Repeat("b", tail), strings.TrimSuffix(w, ")") + strings.Repeat("b", tail) + strings.Repeat(")", len(w)-len(strings.TrimSuffix(w, ")")))} {
			expect(t, word, "true", checkWriting(t, p, word))
		}
		if tail > 0 {
			checkWriting(t, p, w+strings.Repeat("b", tail-1)+"a")
		}
		expectInvalidWriting(t, p, w+strings.Repeat("b", tail+1))
	}
}

func TestCountProgramWords(t *testing.T) {
	t.Parallel()
	l := lottery(733)
	for i, p := range slices.Concat(smallPrograms(), samplePrograms()) {
		for length := range int64(6) {
			if length == 5 && l.below(3) > 0 {
				continue
			}
			list := speltUpTo(p, spot{}, int(length))
			want := 0
			for _, u := range list {
				if len(u.word) == int(length) && slices.ContainsFunc(u.spots, func(x spot) bool { return isComplete(p, x) }) {
					want++
				}
			}
			count, code := impl.CountProgramWords(p, length)
			expect(t, told(i, p, length), told(want, 0), count, code)
		}
		for _, length := range []int64{math.MinInt64, -2, -1, 6, 7, 20, 21, 60, 1 << 32, math.MaxInt64} {
			count, code := impl.CountProgramWords(p, length)
			expectError(t, "CountProgramWords", impl.ErrRange, code, count)
		}
	}
}

func TestKnownCounts(t *testing.T) {
	for lines, want := range map[string][]int64{
		"module 1": {1, 0, 0, 0, 0, 0}, "module 2": {0, 0, 0, 0, 0, 0}, "module 1; link 0 0 a": {1, 1, 1, 1, 1, 1},
		"module 1; link 0 0 a; link 0 0 b": {1, 2, 4, 8, 16, 32}, "module 1; link 0 0 a; link 0 0 a": {1, 1, 1, 1, 1, 1}, // runs are not words
		"module 1; link 0 0 () 0": {1, 0, 1, 0, 2, 0}, "module 3; link 0 2 a; link 0 1 () 0; link 1 2 b": {0, 1, 0, 0, 1, 0},
		"module 1; link 0 0 () 0; link 0 0 (] 0; link 0 0 [) 0; link 0 0 [] 0; link 0 0 a; link 0 0 b": {1, 2, 8, 32, 144, 672},
		"module 2; link 0 1 () 1; link 0 1 () 2; module 1; module 2; link 0 1 a":                       {0, 0, 1, 1, 0, 0},
	} {
		var counts []int64
		for length := range int64(6) {
			count, code := impl.CountProgramWords(program(lines), length)
			expect(t, lines, "0", code)
			counts = append(counts, count)
		}
		expect(t, lines, told(want), counts)
	}
}
