package tests

import (
	"math"
	"regexp"
	"slices"
	"strconv"
	"strings"
	"testing"

	"loop.example/g01145/impl"
)

func TestChapter7Example(t *testing.T) {
	p := chapterProgram()
	var takes []bool
	for _, w := range []string{"a", "(a)b", "((a)b)b", "", "b", "(a)", "ab", "(a]b", "a(a)b"} {
		is, code := impl.ProgramTakes(p, w)
		expect(t, w, "0", code)
		takes = append(takes, is)
	}
	run, one := impl.RunOfWord(p, "(a)b")
	to, two := impl.FirstTo(p, 0, 1)
	count, three := impl.CountProgramWords(p, 4)
	bad, four := impl.FirstBad(p, counting("b", 2))
	expect(t, "example", "[true true true false false false false false false] [1 0 -1 2] 0 (a) 0 1 0 (a)b 0", takes, run, one, to, two, count, three, bad, four)
}

func TestProgramLimits(t *testing.T) {
	expect(t, "limits", "4 8 12 200 4000 400 -1", impl.MaxModules, impl.MaxNodes, impl.MaxLinks, impl.MaxChoicesMade, impl.MaxProgramText, impl.MaxItems, impl.GoBack)
}

func TestProgramsAreValid(t *testing.T) {
	for _, p := range samplePrograms() {
		expect(t, textOfProgram(p), "true true", impl.ValidProgram(p), impl.ValidProgram(copiedProgram(p)))
	}
	for i, p := range brokenPrograms() {
		if impl.ValidProgram(p) {
			t.Errorf("the broken program %d is not valid: %.300s", i, told(p))
		}
		expect(t, "the text of a broken program", "", impl.ProgramText(p))
	}
}

// TestSizesOfPrograms changes one size at a time, from none to too many.
func TestSizesOfPrograms(t *testing.T) {
	for count := range 20 {
		modules := impl.Program{Modules: slices.Repeat(program("module 2; link 0 1 () 0").Modules, count)}
		expect(t, told("modules", count), told(count >= 1 && count <= 4), impl.ValidProgram(modules))
		nodes := programOf(impl.Module{Nodes: int64(count)})
		expect(t, told("nodes", count), told(count >= 1 && count <= 8), impl.ValidProgram(nodes))
		links := programOf(ring(slices.Repeat([]string{"a"}, count)...))
		expect(t, told("links", count), told(count <= 12), impl.ValidProgram(links))
		both := impl.Program{Modules: slices.Repeat(links.Modules, max(1, min(count, 4)))}
		expect(t, told("links in the last module", count), told(count <= 12), impl.ValidProgram(both))
	}
}

// TestNumbersOfPrograms gives each number of a program each near and far value.
func TestNumbersOfPrograms(t *testing.T) {
	p := program("module 3; link 0 2 a; link 1 2 [] 1; module 5; link 4 0 () 2; link 0 3 b; module 1; link 0 0 (] 0")
	for i := range programNumbers(&p) {
		for _, n := range farNumbers() {
			q := copiedProgram(p)
			*programNumbers(&q)[i] = n
			if impl.ValidProgram(q) != isProgramText(textOfProgram(q)) && q.Modules[0].Links[0].Module == 0 && q.Modules[1].Links[1].Module == 0 {
				t.Errorf("%v: got %v", q, impl.ValidProgram(q))
			}
		}
	}
	for _, n := range farNumbers() {
		for act, calls := range map[string]bool{"a": false, "b": false, "()": true, "(]": true, "[)": true, "[]": true} {
			for modules := range impl.MaxModules {
				q := programOf(slices.Repeat([]impl.Module{ring()}, modules+1)...)
				q.Modules[modules].Links = []impl.Link{{Act: act, Module: n}}
				expect(t, told("the module of", act, n, modules), told(n == 0 || calls && n > 0 && n <= int64(modules)), impl.ValidProgram(q))
			}
		}
		for nodes := int64(1); nodes <= impl.MaxNodes; nodes++ {
			from, to := impl.Module{Nodes: nodes, Links: []impl.Link{{From: n, Act: "a"}}}, impl.Module{Nodes: nodes, Links: []impl.Link{{To: n, Act: "()"}}}
			want := told(n >= 0 && n < nodes)
			expect(t, told("ends of links", n, nodes), told(want, want), impl.ValidProgram(programOf(ring(), from)), impl.ValidProgram(programOf(to)))
		}
	}
}

func TestActsOfLinks(t *testing.T) {
	for _, text := range slices.Concat(wordsOf(0), wordsOf(1), wordsOf(2), wordsOf(3)) {
		want := text == "a" || text == "b" || slices.Contains(pairTexts, text)
		expect(t, "the act "+text, told(want), impl.ValidProgram(programOf(impl.Module{Nodes: 1, Links: []impl.Link{{Act: text}}})))
	}
	for _, text := range noActs() {
		expect(t, "no act", "false false", impl.ValidProgram(programOf(impl.Module{Nodes: 1, Links: []impl.Link{{Act: text}}})), impl.ValidProgram(programOf(ring("a"), impl.Module{Nodes: 1, Links: []impl.Link{{Act: text, Module: 1}}})))
	}
}

func TestSamePrograms(t *testing.T) {
	list := append(samplePrograms()[:50], brokenPrograms()...)
	list = slices.DeleteFunc(list, func(p impl.Program) bool { return len(told(p)) > 1000 })
	var texts []string
	for _, p := range list {
		texts = append(texts, told(p))
		expect(t, told(p), "true true", impl.SameProgram(p, copiedProgram(p)), impl.SameProgram(copiedProgram(p), p))
	}
	for i, p := range list {
		for k, q := range list {
			// Those with the same text can still be others, as acts can have blanks.
			if texts[i] != texts[k] && impl.SameProgram(p, q) {
				t.Errorf("%v and %v are not the same", p, q)
			}
		}
	}
	p := program("module 3; link 0 2 a; link 1 2 [] 1; module 5; link 4 0 () 0; link 0 3 b")
	differs := func(change func(q *impl.Program)) {
		q := copiedProgram(p)
		change(&q)
		expect(t, told("another one", q), "false false", impl.SameProgram(p, q), impl.SameProgram(q, p))
	}
	for i := range programNumbers(&p) {
		differs(func(q *impl.Program) { *programNumbers(q)[i]++ })
		differs(func(q *impl.Program) { *programNumbers(q)[i] = math.MinInt64 })
	}
	for i, m := range p.Modules {
		for k := range m.Links {
			differs(func(q *impl.Program) { q.Modules[i].Links[k].Act += "a" })
			differs(func(q *impl.Program) { q.Modules[i].Links[k].Act = "" })
		}
		differs(func(q *impl.Program) { q.Modules[i].Links = m.Links[:1] })
		differs(func(q *impl.Program) { q.Modules[i].Links = nil })
		differs(func(q *impl.Program) { slices.Reverse(q.Modules[i].Links) })
		differs(func(q *impl.Program) { q.Modules[i].Links = append(q.Modules[i].Links, m.Links[0]) })
	}
	differs(func(q *impl.Program) { q.Modules = q.Modules[:1] })
	differs(func(q *impl.Program) { q.Modules = append(q.Modules, q.Modules[1]) })
	differs(func(q *impl.Program) { slices.Reverse(q.Modules) })
	empty := impl.Program{Modules: []impl.Module{}}
	inside := programOf(impl.Module{Nodes: 1, Links: []impl.Link{}})
	expect(t, "nil and empty", "true true true true false", impl.SameProgram(empty, impl.Program{}), impl.SameProgram(impl.Program{}, empty),
		impl.SameProgram(inside, programOf(ring())), impl.SameProgram(programOf(ring()), inside), impl.SameProgram(empty, programOf(impl.Module{})))
}

func TestTextsOfPrograms(t *testing.T) {
	for text, lines := range map[string]string{
		"module 1\n": "module 1", "module 8\nmodule 1\n": "module 8; module 1",
		"module 3\nlink 0 2 a\nlink 0 1 () 0\nlink 1 2 b\n":                                                 "module 3; link 0 2 a; link 0 1 () 0; link 1 2 b",
		"module 2\nlink 1 0 [] 1\nlink 0 0 b\nmodule 1\nlink 0 0 (] 0\nlink 0 0 [) 1\n":                     "module 2; link 1 0 [] 1; link 0 0 b; module 1; link 0 0 (] 0; link 0 0 [) 1",
		"module 8\nlink 7 0 a\nlink 0 7 () 3\nmodule 1\nmodule 4\nlink 3 3 [] 2\nmodule 2\nlink 1 0 (] 1\n": "module 8; link 7 0 a; link 0 7 () 3; module 1; module 4; link 3 3 [] 2; module 2; link 1 0 (] 1",
	} {
		p := program(lines)
		expect(t, "ProgramText", text, impl.ProgramText(p))
		read, code := impl.ReadProgram(text)
		expectProgram(t, text, p, read, code)
		expect(t, text, "true", impl.SameProgram(p, read))
	}
	for _, p := range samplePrograms() {
		text := impl.ProgramText(p)
		expect(t, "ProgramText", textOfProgram(p), text)
		expect(t, text, "true", isProgramText(text))
		read, code := impl.ReadProgram(text)
		expectProgram(t, text, p, read, code)
		expect(t, text, "true true", impl.SameProgram(p, read), impl.ValidProgram(read))
	}
}

const digits = `(0|[1-9][0-9]{0,8})`

var programShape = regexp.MustCompile(`\A(module ` + digits + `\n(link ` + digits + ` ` + digits + ` ([ab]|[([][)\]] ` + digits + `)\n)*)+\z`)

// isProgramText counts in the lines of a text.
func isProgramText(text string) bool {
	if !programShape.MatchString(text) {
		return false
	}
	modules, nodes, links := strings.Count(text, "module"), 0, 0
	for line := range strings.Lines(text) {
		words := strings.Fields(line)
		first, _ := strconv.Atoi(words[1])
		if words[0] == "module" {
			nodes, links = first, 0
			if nodes < 1 || nodes > impl.MaxNodes {
				return false
			}
			continue
		}
		links++
		second, _ := strconv.Atoi(words[2])
		called := 0
		if len(words) > 4 {
			called, _ = strconv.Atoi(words[4])
		}
		if first >= nodes || second >= nodes || called >= modules || links > impl.MaxLinks {
			return false
		}
	}
	return modules <= impl.MaxModules
}

// checkReadingOfProgram checks that a text is read just if it is one of a program.
func checkReadingOfProgram(t *testing.T, text string) {
	t.Helper()
	p, code := impl.ReadProgram(text)
	if !isProgramText(text) {
		expectError(t, strconv.Quote(text[:min(len(text), 200)]), impl.ErrSyntax, code, p)
		return
	}
	if code != impl.OK || !impl.ValidProgram(p) || textOfProgram(p) != text {
		t.Errorf("%q: got the code %d and %v", text, code, p)
	}
}

func TestTextsOfNoProgram(t *testing.T) {
	for _, text := range []string{
		"", "\n", " ", "module", "module\n", "module \n", "module 1", "module 0\n", "module 9\n", "module -1\n", "module 01\n", "module +1\n", "module 1 \n", " module 1\n", "module  1\n", "module 1\n\n", "\nmodule 1\n", "module 1\r\n", "module\t1\n", "module 1 1\n", "Module 1\n", "MODULE 1\n", "modul 1\n", "modules 1\n", "module a\n", "module 1.\n", "module 1\x00\n", "module 18446744073709551617\n", "module 4294967297\n", "module ١\n", "module 1_\n",
		"link 0 0 a\n", "link 0 0 a\nmodule 1\n", "module 1\nlink\n", "module 1\nlink 0 0\n", "module 1\nlink 0 0 \n", "module 1\nlink 0 0 a", "module 1\nlink 0 0 a \n", "module 1\nlink 0 0 a 0\n", "module 1\nlink 0 0 a 1\n", "module 2\nlink 0 0 a -\nmodule 1\n", "module 1\nlink 0 0 a b\n", "module 1\nlink 0 0 c\n", "module 1\nlink 0 0 ab\n", "module 1\nlink 0 0 (\n", "module 1\nlink 0 0 ( ) 0\n", "module 1\nlink 0 0 () \n", "module 1\nlink 0 0 ()\n", "module 1\nlink 0 0 ()0\n", "module 1\nlink 0 0 () 1\n", "module 1\nlink 0 0 () -1\n", "module 1\nlink 0 0 () 00\n", "module 1\nlink 0 0 () 0 \n", "module 1\nlink 0 0 () 0 0\n", "module 1\nlink 0 0 )( 0\n", "module 1\nlink 0 0 (( 0\n", "module 1\nlink 0 0 () a\n", "module 1\nlink 0 0 () 18446744073709551616\n",
		"module 1\nlink 1 0 a\n", "module 1\nlink 0 1 a\n", "module 1\nlink -1 0 a\n", "module 1\nlink 0 a 0\n", "module 1\nlink a 0 0\n", "module 1\nlink 00 0 a\n", "module 1\nlink +0 0 a\n", "module 1\nlink -0 0 a\n", "module 1\nLink 0 0 a\n", "module 1\nlinks 0 0 a\n", "module 1\nlink  0 0 a\n", "module 1\nlink 0  0 a\n", "module 1\n link 0 0 a\n", "module 1 link 0 0 a\n", "module 1\nlink 0 0 a\nmodule\n", "module 1\nlink 0 0 a\n1\n", "1\n", "0 0 a\n", "module 1\nlink 0 0 a\n ", "module 1\nlink 0 0 a\n\n", "module 1\n0 0 a\n", "\ufeffmodule 1\n", "program\nmodule 1\n", "module 1\nend\n",
		strings.Repeat("module 1\n", impl.MaxModules+1), strings.Repeat("module 8\n", impl.MaxModules+1), "module 1\n" + strings.Repeat("link 0 0 a\n", impl.MaxLinks+1),
		"module 1\nmodule 1\n" + strings.Repeat("link 0 0 () 1\n", impl.MaxLinks+1), "module 2\nlink 1 1 a\nmodule 1\nlink 1 1 a\n", "module 1\nlink 0 1 a\nmodule 2\n",
	} {
		if isProgramText(text) {
			t.Errorf("%q is one", text)
		}
		checkReadingOfProgram(t, text)
	}
	for _, text := range []string{strings.Repeat("module 1\n", impl.MaxModules), "module 1\n" + strings.Repeat("link 0 0 a\n", impl.MaxLinks), "module 1\nlink 0 0 [] 3\nmodule 8\nmodule 7\nlink 6 6 b\nmodule 1\n"} {
		expect(t, "a text", "true", isProgramText(text))
		checkReadingOfProgram(t, text)
	}
	for _, p := range brokenPrograms() {
		if text := textOfProgram(p); len(text) < 500 {
			checkReadingOfProgram(t, text)
		}
	}
}

func TestProgramTextsWithOneChange(t *testing.T) {
	for _, text := range []string{"module 1\n", textOfProgram(chapterProgram()), "module 2\nlink 1 0 [] 1\nlink 0 0 b\nmodule 1\nlink 0 0 (] 0\n"} {
		for _, changed := range textsWithOneChange(text, "012389+- \n\tab([)]mlk_.\x00") {
			checkReadingOfProgram(t, changed)
		}
		lines := strings.SplitAfter(text, "\n")
		for i := range lines {
			for k := range i {
				changed := slices.Clone(lines)
				changed[i], changed[k] = changed[k], changed[i]
				checkReadingOfProgram(t, strings.Join(changed, ""))
			}
		}
	}
}

func TestReadProgramRange(t *testing.T) {
	longest := textOfProgram(fullProgram())
	for _, padding := range []string{"\n", " ", "0", "a", "\x00", "module 1\n", "link 0 0 a\n", "link 0 0 () 0\n", longest} {
		for _, text := range []string{"", "module 1\n", longest, "link"} {
			padded := text + strings.Repeat(padding, impl.MaxProgramText+2)
			for _, length := range []int{impl.MaxProgramText - 1, impl.MaxProgramText} {
				p, code := impl.ReadProgram(padded[:length])
				expectError(t, "a text of the greatest length", impl.ErrSyntax, code, p)
			}
			for _, length := range []int{impl.MaxProgramText + 1, impl.MaxProgramText + 2, len(padded)} {
				p, code := impl.ReadProgram(padded[:length])
				expectError(t, "a long text", impl.ErrRange, code, p)
			}
		}
	}
	p, code := impl.ReadProgram(strings.Repeat("module 1\n", 1000000/9))
	expectError(t, "a very long text", impl.ErrRange, code, p)
}

// sampleRuns returns choices of a program, most of which can be made.
func sampleRuns(l *lottery, p impl.Program, length int) []int64 {
	var x spot
	var run []int64
	for range length {
		choices := x.choices(p)
		if len(choices) == 0 {
			break
		}
		choice := choices[l.below(int64(len(choices)))]
		if choice == impl.GoBack && len(run) < length/2 && len(choices) > 1 {
			choice = choices[1] // to be deeper
		}
		run = append(run, choice)
		x, _ = x.after(p, choice)
	}
	if l.below(6) == 0 && len(run) > 0 {
		run[l.below(int64(len(run)))] += l.below(5) - 2
	}
	return run
}

// checkRun compares what choices lead to with what follows them one by one.
func checkRun(t *testing.T, p impl.Program, run []int64) int64 {
	t.Helper()
	text, x, can := walked(p, run)
	word, place, one := impl.RunProgram(p, run)
	choices, two := impl.ChoicesAt(p, run)
	switch {
	case len(run) > impl.MaxChoicesMade:
		expectError(t, "RunProgram of too many choices", impl.ErrRange, one, word, place)
		expectError(t, "ChoicesAt of too many choices", impl.ErrRange, two, choices)
	case !can:
		expectError(t, told("RunProgram", p, run), impl.ErrState, one, word, place)
		expectError(t, told("ChoicesAt", p, run), impl.ErrState, two, choices)
	case len(text) > impl.MaxWord:
		expectError(t, told("RunProgram", p, run), impl.ErrLimit, one, word, place)
		expect(t, told("ChoicesAt", p, run), told(x.choices(p), 0), choices, two)
	default:
		expect(t, told("RunProgram", p, run), told(text, x.place(), 0), word, place, one)
		expect(t, told("ChoicesAt", p, run), told(x.choices(p), 0), choices, two)
	}
	return one
}

func TestRunsOfPrograms(t *testing.T) {
	l := lottery(709)
	codes := map[int64]int{}
	for _, p := range samplePrograms() {
		for _, length := range []int{0, 1, 2, 3, 5, 8, 13, 21, 40, impl.MaxWord - 1, impl.MaxWord, impl.MaxWord + 1, 100, impl.MaxChoicesMade, impl.MaxChoicesMade + 1, impl.MaxChoicesMade + 40} {
			for range 3 {
				codes[checkRun(t, p, sampleRuns(&l, p, length))]++
			}
		}
	}
	for _, code := range []int64{impl.OK, impl.ErrRange, impl.ErrState, impl.ErrLimit} {
		if codes[code] < 40 {
			t.Errorf("the codes are %v", codes)
		}
	}
}

func TestAllShortRuns(t *testing.T) {
	for _, p := range specialPrograms() {
		lists := [][]int64{nil}
		for range 3 {
			var longer [][]int64
			for _, list := range lists {
				checkRun(t, p, list)
				for _, choice := range []int64{-1, 0, 1, 2, 3, 11, 12} {
					longer = append(longer, append(slices.Clone(list), choice))
				}
			}
			lists = longer
		}
	}
}

func TestKnownRunsOfPrograms(t *testing.T) {
	p := program("module 3; link 0 1 () 1; link 1 2 [] 1; link 1 1 (] 0; link 2 0 a; module 2; link 0 1 b; link 1 0 [) 1; link 0 1 () 0")
	for run, want := range map[string]string{
		"":                  " {0 0 []} [0]",
		"0":                 "( {1 0 [[0 0]]} [0 2]",
		"0 0":               "(b {1 1 [[0 0]]} [-1 1]",
		"0 0 -1":            "(b) {0 1 []} [1 2]",
		"0 0 1":             "(b[ {1 0 [[0 0] [1 1]]} [0 2]",
		"0 0 1 0 -1":        "(b[b) {1 0 [[0 0]]} [0 2]",
		"0 2":               "(( {0 0 [[0 0] [1 2]]} [0]",
		"0 2 0 0 -1":        "(((b) {0 1 [[0 0] [1 2]]} [1 2]",
		"0 0 -1 1 0 -1":     "(b)[b] {0 2 []} [3]",
		"0 0 -1 1 0 -1 3":   "(b)[b]a {0 0 []} [0]",
		"0 0 -1 2 0 0 -1 2": "(b)((b)( {0 0 [[0 2] [0 2]]} [0]",
		"0 2 0 0 -1 1 0 -1": "(((b)[b] {0 2 [[0 0] [1 2]]} [-1 3]",
	} {
		var list []int64
		for _, word := range strings.Fields(run) {
			list = append(list, number(word))
		}
		word, place, one := impl.RunProgram(p, list)
		choices, two := impl.ChoicesAt(p, list)
		expect(t, "the run "+run, want, word, place, choices)
		expect(t, "the run "+run, "0 0", one, two)
	}
}

// TestChoicesThatCannotBeMade makes each other choice behind a run.
func TestChoicesThatCannotBeMade(t *testing.T) {
	p := program("module 2; link 0 1 a; link 0 1 () 1; link 1 1 b; link 1 0 [] 0; module 1; link 0 0 a; module 1")
	for run, can := range map[string][]int64{"": {0, 1}, "0": {2, 3}, "0 2": {2, 3}, "1": {-1, 0}, "1 0": {-1, 0}, "1 -1": {2, 3}, "0 3": {0, 1}, "0 3 0": {-1, 2, 3}, "0 3 0 -1": {0, 1}} {
		var list []int64
		for _, word := range strings.Fields(run) {
			list = append(list, number(word))
		}
		for _, choice := range farNumbers() {
			word, place, one := impl.RunProgram(p, append(slices.Clone(list), choice))
			choices, two := impl.ChoicesAt(p, append(slices.Clone(list), choice))
			if slices.Contains(can, choice) {
				expect(t, told(run, choice), "0 0", one, two)
				continue
			}
			expectError(t, told("RunProgram", run, choice), impl.ErrState, one, word, place)
			expectError(t, told("ChoicesAt", run, choice), impl.ErrState, two, choices)
			// It cannot be made, whatever stands behind it.
			word, place, one = impl.RunProgram(p, append(slices.Clone(list), choice, can[0]))
			expectError(t, told("RunProgram", run, choice), impl.ErrState, one, word, place)
		}
	}
}

func TestGoBackNeedsAnOpenCall(t *testing.T) {
	for _, p := range []impl.Program{programOf(ring()), programOf(ring("a")), programOf(ring("()0")), chapterProgram()} {
		word, place, one := impl.RunProgram(p, []int64{impl.GoBack})
		expectError(t, "RunProgram", impl.ErrState, one, word, place)
		choices, two := impl.ChoicesAt(p, []int64{impl.GoBack})
		expectError(t, "ChoicesAt", impl.ErrState, two, choices)
	}
	p := programOf(ring("[)0"))
	for text, run := range map[string][]int64{"[)": {0, -1}, "[[))": {0, 0, -1, -1}, "[)[)": {0, -1, 0, -1}} {
		word, place, code := impl.RunProgram(p, run)
		expect(t, text, told(text, impl.Place{}, 0), word, place, code)
		word, place, code = impl.RunProgram(p, append(run, impl.GoBack))
		expectError(t, text, impl.ErrState, code, word, place)
	}
	// At another node than the exit, there is no way back.
	word, place, code := impl.RunProgram(chapterProgram(), []int64{1, -1})
	expectError(t, "at the entry", impl.ErrState, code, word, place)
	choices, code := impl.ChoicesAt(chapterProgram(), []int64{1, 0, -1})
	expect(t, "ChoicesAt", "[2] 0", choices, code)
	choices, code = impl.ChoicesAt(chapterProgram(), []int64{0})
	expect(t, "nothing can be done", "[] 0", choices, code)
}

// TestLimitsOfRuns makes exactly as many choices as there may be, and one more.
func TestLimitsOfRuns(t *testing.T) {
	p := programOf(ring("a", "()0"))
	for length := range impl.MaxChoicesMade + 3 {
		flat, deep := make([]int64, length), slices.Repeat([]int64{1}, length)
		x, places := spot{open: strings.Repeat("\x01", length)}, impl.Place{}
		for _, run := range [][]int64{flat, deep} {
			word, place, one := impl.RunProgram(p, run)
			choices, two := impl.ChoicesAt(p, run)
			switch {
			case length > impl.MaxChoicesMade:
				expectError(t, "RunProgram", impl.ErrRange, one, word, place)
				expectError(t, "ChoicesAt", impl.ErrRange, two, choices)
				continue
			case length > impl.MaxWord:
				expectError(t, "RunProgram", impl.ErrLimit, one, word, place)
			case length > 0 && run[0] == 1:
				expect(t, "deep", told(strings.Repeat("(", length), x.place(), 0), word, place, one)
			default:
				expect(t, "flat", told(strings.Repeat("a", length), places, 0), word, place, one)
			}
			can := []int64{0, 1}
			if length > 0 && run[0] == 1 {
				can = []int64{-1, 0, 1}
			}
			expect(t, "ChoicesAt", told(can, 0), choices, two)
		}
	}
}

// TestOrderOfErrorsOfRuns has several reasons for an error each time.
func TestOrderOfErrorsOfRuns(t *testing.T) {
	p := programOf(ring("a"))
	for _, bad := range []int64{-1, 1, 12, math.MinInt64, math.MaxInt64} {
		for _, length := range []int{0, 1, impl.MaxWord, impl.MaxWord + 1, impl.MaxChoicesMade - 1, impl.MaxChoicesMade, impl.MaxChoicesMade + 1, 1000} {
			for _, run := range [][]int64{append(make([]int64, length), bad), append([]int64{bad}, make([]int64, length)...)} {
				want := int64(impl.ErrState)
				if len(run) > impl.MaxChoicesMade {
					want = impl.ErrRange
				}
				word, place, one := impl.RunProgram(p, run)
				expectError(t, "RunProgram", want, one, word, place)
				choices, two := impl.ChoicesAt(p, run)
				expectError(t, "ChoicesAt", want, two, choices)
				word, place, one = impl.RunProgram(impl.Program{}, run)
				expectError(t, "RunProgram", impl.ErrInvalid, one, word, place)
				choices, two = impl.ChoicesAt(programOf(ring("c")), run)
				expectError(t, "ChoicesAt", impl.ErrInvalid, two, choices)
			}
		}
	}
}

// TestFunctionsExpectValidPrograms gives no function of the chapter a valid
// program; this comes ahead of all other errors.
func TestFunctionsExpectValidPrograms(t *testing.T) {
	valid := chapterProgram()
	for _, p := range brokenPrograms() {
		for _, n := range []int64{-1, 0, 1, 100} {
			expectInvalidProgram(t, p, n)
		}
		for _, w := range []string{"", "a", "(", "c"} {
			expectInvalidWriting(t, p, w)
		}
		expectInvalidChecking(t, p, impl.MatchedChecker())
		expectInvalidChecking(t, p, impl.Checker{})
	}
	for _, w := range noWords() {
		expectInvalidWriting(t, valid, w)
	}
	for _, c := range brokenCheckers() {
		expectInvalidChecking(t, valid, c)
		expectInvalidChecking(t, program("module 2"), c)
	}
}

func expectInvalidProgram(t *testing.T, p impl.Program, n int64) {
	t.Helper()
	for _, run := range [][]int64{nil, {n}, make([]int64, impl.MaxChoicesMade+1)} {
		word, place, code := impl.RunProgram(p, run)
		expectError(t, "RunProgram", impl.ErrInvalid, code, word, place)
		choices, code := impl.ChoicesAt(p, run)
		expectError(t, "ChoicesAt", impl.ErrInvalid, code, choices)
	}
	between, one := impl.FirstBetween(p, n, n/2, n)
	expectError(t, "FirstBetween", impl.ErrInvalid, one, between)
	first, two := impl.FirstOfModule(p, n)
	expectError(t, "FirstOfModule", impl.ErrInvalid, two, first)
	reached, three := impl.ReachedNodes(p)
	expectError(t, "ReachedNodes", impl.ErrInvalid, three, reached)
	to, four := impl.FirstTo(p, n, n)
	expectError(t, "FirstTo", impl.ErrInvalid, four, to)
	count, five := impl.CountProgramWords(p, n)
	expectError(t, "CountProgramWords", impl.ErrInvalid, five, count)
}

func expectInvalidWriting(t *testing.T, p impl.Program, w string) {
	t.Helper()
	takes, one := impl.ProgramTakes(p, w)
	expectError(t, "ProgramTakes", impl.ErrInvalid, one, takes)
	run, two := impl.RunOfWord(p, w)
	expectError(t, "RunOfWord", impl.ErrInvalid, two, run)
}

func expectInvalidChecking(t *testing.T, p impl.Program, c impl.Checker) {
	t.Helper()
	bad, one := impl.FirstBad(p, c)
	expectError(t, "FirstBad", impl.ErrInvalid, one, bad)
	safe, two := impl.IsSafe(p, c)
	expectError(t, "IsSafe", impl.ErrInvalid, two, safe)
}
