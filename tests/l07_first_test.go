package tests

import (
	"math"
	"slices"
	"strings"
	"testing"

	"loop.example/g01145/impl"
)

// itemStart is where a matched word begins: a module, a node of it, and a state
// of a checker. An item has, behind these, the node and the state where it ends.
type (
	itemStart [3]int64
	item      [5]int64
)

// begin and end are the starts in which an item begins and ends.
func (x item) begin() itemStart { return itemStart(x[:3]) }
func (x item) end() itemStart   { return itemStart{x[0], x[3], x[4]} }

func itemFrom(begin itemStart, node, state int64) item {
	return item{begin[0], begin[1], begin[2], node, state}
}

// least is the first word that is known, or stands for longer ones alone.
type least struct {
	word   string
	longer bool
}

func joinedLeast(front string, body least, back string) least {
	if body.longer || len(front)+len(body.word)+len(back) > impl.MaxWord {
		return least{longer: true}
	}
	return least{word: front + body.word + back}
}

func (u least) isBefore(v least) bool {
	return !u.longer && (v.longer || compareWords(u.word, v.word) < 0)
}

// itemTable has the first words of items. It improves them by rounds.
type itemTable struct {
	p       impl.Program
	c       impl.Checker
	words   map[item]least
	changed bool
}

func (k *itemTable) improve(x item, u least) {
	if old, known := k.words[x]; !known || u.isBefore(old) {
		k.words[x], k.changed = u, true
	}
}

func (k *itemTable) enter(begin itemStart) { k.improve(itemFrom(begin, begin[1], begin[2]), least{}) }

// lookAt follows the links from the end of an item.
func (k *itemTable) lookAt(x item) {
	u, module, node, state := k.words[x], x[0], x[3], x[4]
	for _, l := range k.p.Modules[module].Links {
		if l.From != node {
			continue
		}
		kind := symbolKind(l.Act[0])
		if len(l.Act) == 1 {
			k.improve(itemFrom(x.begin(), l.To, k.c.Inner[state][kind]), joinedLeast("", u, l.Act))
			continue
		}
		push := k.c.Call[state][kind]
		k.enter(itemStart{l.Module, 0, push.To})
		for last := range int64(len(k.c.Accept)) {
			body, known := k.words[itemFrom(itemStart{l.Module, 0, push.To}, exitOf(k.p, l.Module), last)]
			if !known {
				continue
			}
			whole := joinedLeast(u.word+l.Act[:1], body, l.Act[1:])
			if u.longer {
				whole = u
			}
			k.improve(itemFrom(x.begin(), l.To, k.c.Return[last][symbolKind(l.Act[1])][push.Put]), whole)
		}
	}
}

// itemsByRounds looks at all items again as long as something changes; it stops
// when there are more than most.
func itemsByRounds(p impl.Program, c impl.Checker, most int, starts ...itemStart) *itemTable {
	k := &itemTable{p: p, c: c, words: map[item]least{}}
	for _, start := range starts {
		k.enter(start)
	}
	for k.changed = true; k.changed && len(k.words) <= most; {
		k.changed = false
		var items []item
		for x := range k.words {
			items = append(items, x)
		}
		for _, x := range items {
			k.lookAt(x)
		}
	}
	return k
}

// betweenByRounds has the items from all nodes of all modules, and a checker with
// one state.
func betweenByRounds(p impl.Program) *itemTable {
	var starts []itemStart
	for module, m := range p.Modules {
		for node := range m.Nodes {
			starts = append(starts, itemStart{int64(module), node, 0})
		}
	}
	return itemsByRounds(p, evenChecker(1, 1, 0, 0), 1000, starts...)
}

// told returns what a function should return for a word.
func (u least) told(known bool) string {
	switch {
	case !known:
		return told("", impl.ErrNotFound)
	case u.longer:
		return told("", impl.ErrLimit)
	}
	return told(u.word, impl.OK)
}

func (k *itemTable) toldBetween(module, s, to int64) string {
	u, known := k.words[item{module, s, 0, to, 0}]
	return u.told(known)
}

// entriesByRounds has the first words of runs that lead to the entries of modules.
func (k *itemTable) entriesByRounds() map[int64]least {
	entries := map[int64]least{0: {}}
	for changed := true; changed; {
		changed = false
		for module := range int64(len(k.p.Modules)) {
			for _, l := range k.p.Modules[module].Links {
				u, known := k.wordTo(entries, module, l.From)
				if len(l.Act) == 1 || !known {
					continue
				}
				u = joinedLeast("", u, l.Act[:1])
				if old, known := entries[l.Module]; !known || u.isBefore(old) {
					entries[l.Module], changed = u, true
				}
			}
		}
	}
	return entries
}

// wordTo joins the first word to the entry of a module and the first one from
// there to a node.
func (k *itemTable) wordTo(entries map[int64]least, module, node int64) (least, bool) {
	entry, one := entries[module]
	u, two := k.words[item{module, 0, 0, node, 0}]
	if entry.longer {
		u = entry
	}
	return joinedLeast(entry.word, u, ""), one && two
}

// searchedPrograms returns programs in which the tests look for first words.
func searchedPrograms() []impl.Program {
	list := slices.Concat(samplePrograms(), longPrograms())
	l := lottery(739)
	for i := range int64(60) {
		list = append(list, l.lines(2+i%3, 4+i%4), l.program(1+i%4, 8, 12, 3))
	}
	return list
}

// longPrograms have first words of exactly MaxWord symbols, of a few less, and of
// many more.
func longPrograms() []impl.Program {
	seven := line("a", "b", "a", "b", "a", "b", "a")
	list := []impl.Program{
		programOf(line("()1", "()1", "()1", "()1", "()1", "()1", "()1"), line("[]2", "[]2", "[]2", "[]2", "[]2", "[]2", "[]2"), line("(]3", "(]3", "(]3", "(]3", "(]3", "(]3", "(]3"), seven),
		programOf(line("a", "b"), seven, line("()1", "()1", "()1", "()1", "()1", "()1", "()1"), line("()2", "a")),
	}
	for letters := range 7 {
		// Six calls with nine symbols each, and then letters, in a module that is called.
		inner := line(slices.Concat(slices.Repeat([]string{"[)2"}, 6), []string{"b"})...)
		outer := append([]string{"()1"}, slices.Repeat([]string{"a"}, letters)...)
		list = append(list, programOf(line(outer...), inner, seven), programOf(line("()2"), seven, line(append([]string{"()3"}, outer[1:]...)...), line("[]1", "[]1", "[]1", "[]1", "[]1", "b")))
	}
	return list
}

func TestFirstBetween(t *testing.T) {
	t.Parallel()
	codes, full := map[int64]int{}, 0
	for i, p := range searchedPrograms() {
		k := betweenByRounds(p)
		for module := range p.Modules {
			m := int64(module)
			for s := range p.Modules[m].Nodes {
				for to := range p.Modules[m].Nodes {
					word, code := impl.FirstBetween(p, m, s, to)
					expect(t, told(i, p, m, s, to), k.toldBetween(m, s, to), word, code)
					codes[code]++
					if len(word) == impl.MaxWord {
						full++
					}
				}
			}
			word, code := impl.FirstOfModule(p, m)
			expect(t, told(i, p, m), k.toldBetween(m, 0, exitOf(p, m)), word, code)
		}
	}
	if codes[impl.OK] < 1000 || codes[impl.ErrNotFound] < 1000 || codes[impl.ErrLimit] < 50 || full < 5 {
		t.Errorf("the codes are %v, and %d words have the greatest length", codes, full)
	}
}

// TestFirstBetweenIsWritten looks for each word that is found among the runs, and
// for each one before it.
func TestFirstBetweenIsWritten(t *testing.T) {
	t.Parallel()
	for i, p := range slices.Concat(smallPrograms(), samplePrograms()) {
		for module := range p.Modules {
			m := int64(module)
			for s := range p.Modules[m].Nodes {
				list := speltUpTo(p, spot{module: m, node: s}, 3)
				for to := range p.Modules[m].Nodes {
					end := spot{module: m, node: to}
					word, code := impl.FirstBetween(p, m, s, to)
					at := slices.IndexFunc(list, func(u spelt) bool { return slices.Contains(u.spots, end) })
					switch {
					case at >= 0 && (word != list[at].word || code != impl.OK):
						t.Fatalf("%d, %v from %d to %d: got %q and the code %d, want %q", i, p, s, to, word, code, list[at].word)
					case at < 0 && code == impl.OK && (len(word) <= 3 || !slices.Contains(spotsBehind(p, spot{module: m, node: s}, word), end)):
						t.Fatalf("%d, %v from %d to %d: got %q, which no run writes", i, p, s, to, word)
					}
				}
			}
		}
	}
}

func TestFirstBetweenRange(t *testing.T) {
	for _, p := range []impl.Program{programOf(ring()), programOf(ring("a")), chapterProgram(), program("module 8; link 0 7 a; module 2; module 5; link 0 4 () 1"), fullProgram()} {
		modules := int64(len(p.Modules))
		for _, n := range farNumbers() {
			if n < 0 || n >= modules {
				for _, node := range []int64{0, 1, n, -1, 100} {
					expectNoFirst(t, p, n, node, 0, impl.ErrRange)
				}
				word, code := impl.FirstOfModule(p, n)
				expectError(t, "FirstOfModule", impl.ErrRange, code, word)
			}
			for module := range modules {
				if n >= 0 && n < p.Modules[module].Nodes {
					word, code := impl.FirstBetween(p, module, n, n)
					expect(t, "the same node", " 0", word, code)
					continue
				}
				expectNoFirst(t, p, module, n, 0, impl.ErrRange)
			}
		}
	}
}

// expectNoFirst is for a module or a node that is none.
func expectNoFirst(t *testing.T, p impl.Program, module, node, other, want int64) {
	t.Helper()
	for _, ends := range [][2]int64{{node, other}, {other, node}, {node, node}} {
		word, code := impl.FirstBetween(p, module, ends[0], ends[1])
		expectError(t, told("FirstBetween", module, ends), want, code, word)
	}
	word, code := impl.FirstTo(p, module, node)
	expectError(t, told("FirstTo", module, node), want, code, word)
}

// TestSymbolsOfLinksHaveAnOrder has two links, the words of which have the same
// length and differ in one symbol.
func TestSymbolsOfLinksHaveAnOrder(t *testing.T) {
	single := []string{"a", "b"}
	double := append([]string{"aa", "ab", "ba", "bb"}, pairTexts...)
	slices.SortFunc(double, compareWords)
	for _, texts := range [][]string{single, double} {
		for i, first := range texts {
			for k, second := range texts {
				p := programOf(impl.Module{Nodes: 4}, ring())
				for node, text := range []string{first, second} {
					way := int64(node) + 1
					switch {
					case len(text) == 1:
						p.Modules[0].Links = append(p.Modules[0].Links, act(0, 3, text))
					case isCall(text[0]):
						p.Modules[0].Links = append(p.Modules[0].Links, act(0, 3, text+"1"))
					default:
						p.Modules[0].Links = append(p.Modules[0].Links, act(0, way, text[:1]), act(way, 3, text[1:]))
					}
				}
				want := texts[min(i, k)]
				between, one := impl.FirstBetween(p, 0, 0, 3)
				whole, two := impl.FirstOfModule(p, 0)
				to, three := impl.FirstTo(p, 0, 3)
				none := evenChecker(1, 1, 0, 0)
				bad, four := impl.FirstBad(p, none)
				expect(t, told(first, "and", second), told(want, want, want, want, 0, 0, 0, 0), between, whole, to, bad, one, two, three, four)
			}
		}
	}
}

func TestKnownFirstWordsOfPrograms(t *testing.T) {
	for _, test := range []struct{ lines, want string }{
		{"module 1", ""}, {"module 1; link 0 0 a", ""}, {"module 2", "none"}, {"module 2; link 1 0 a", "none"},
		{"module 2; link 0 1 b; link 0 1 a", "a"}, {"module 2; link 0 1 () 1; link 0 1 b; module 1", "b"},
		{"module 3; link 0 1 a; link 1 2 a; link 0 2 () 1; module 1", "()"}, {"module 3; link 0 1 a; link 1 2 a; link 0 2 () 1; module 2; link 0 1 a", "aa"},
		{"module 2; link 0 1 [] 1; link 0 1 () 2; module 2; link 0 1 a; module 2; link 0 1 b", "(b)"}, // the call is ahead of the letter
		{"module 2; link 0 1 () 1; link 0 1 () 2; module 2; link 0 1 b; module 2; link 0 1 a", "(a)"},
		{"module 2; link 0 1 (] 1; link 0 1 () 2; module 2; link 0 1 a; module 2; link 0 1 b", "(a]"}, // the letter is ahead of the return
		{"module 2; link 0 1 (] 1; link 0 1 () 1; module 2; link 0 1 a", "(a)"},
		{"module 3; link 0 1 a; link 1 2 () 1; link 0 1 () 1; link 1 2 b; module 1", "ab"},
		{"module 3; link 0 1 a; link 1 2 () 1; link 0 2 () 2; module 1; module 2; link 0 1 b", "(b)"}, // calls are ahead of letters
		{"module 2; link 0 1 () 0", "none"}, {"module 2; link 0 1 () 0; link 0 1 b", "b"},
		{"module 2; link 0 1 () 1; module 2; link 0 1 [] 0", "none"}, {"module 2; link 0 1 () 1; module 2; link 0 1 [] 0; link 0 1 [] 2; module 1", "([])"},
		{"module 3; link 0 1 () 1; link 1 2 () 1; module 1; link 0 0 b", "()()"}, {"module 2; link 0 1 () 1; module 3; link 0 2 [] 0; link 0 1 a; link 1 2 a", "(aa)"},
		{"module 3; link 0 1 () 0; link 0 2 a; link 1 2 b", "a"},
	} {
		word, code := impl.FirstOfModule(program(test.lines), 0)
		between, one := impl.FirstBetween(program(test.lines), 0, 0, exitOf(program(test.lines), 0))
		want := told(test.want, 0)
		if test.want == "none" {
			want = told("", impl.ErrNotFound)
		}
		expect(t, test.lines, want, word, code)
		expect(t, test.lines, want, between, one)
	}
}

// TestFirstWordsLengths has words of exactly MaxWord symbols and one more, in the
// module itself, and in one that it calls.
func TestFirstWordsLengths(t *testing.T) {
	seven, inner := line("a", "b", "a", "b", "a", "b", "a"), line("[)2", "[)2", "[)2", "[)2", "[)2", "[)2", "b")
	innerWord := strings.Repeat("[abababa)", 6) + "b" // 55 symbols
	for letters := range 7 {
		tail := slices.Repeat([]string{"a"}, letters)
		p := programOf(line(append([]string{"()1"}, tail...)...), inner, seven)
		w := "(" + innerWord + ")" + strings.Repeat("a", letters)
		want := told(w, 0)
		if len(w) > impl.MaxWord {
			want = told("", impl.ErrLimit)
		}
		first, one := impl.FirstOfModule(p, 0)
		expect(t, told(letters), want, first, one)
		first, one = impl.FirstBetween(p, 0, 0, exitOf(p, 0))
		expect(t, told(letters), want, first, one)
		first, one = impl.FirstTo(p, 0, exitOf(p, 0))
		expect(t, told(letters), want, first, one)
		first, one = impl.FirstBad(p, evenChecker(1, 1, 0, 0))
		expect(t, told(letters), want, first, one)
		safe, two := impl.IsSafe(p, evenChecker(1, 1, 0, 0))
		expect(t, told(letters), "false 0", safe, two)
		// The same words, called by another module: two symbols more.
		called := programOf(line("[]1"), p.Modules[0], inner, seven)
		called.Modules[1].Links = append([]impl.Link{act(0, 1, "()2")}, p.Modules[0].Links[1:]...)
		called.Modules[2] = line("[)3", "[)3", "[)3", "[)3", "[)3", "[)3", "b")
		want = told("["+w+"]", 0)
		if len(w)+2 > impl.MaxWord {
			want = told("", impl.ErrLimit)
		}
		first, one = impl.FirstOfModule(called, 0)
		expect(t, told(letters, "called"), want, first, one)
		first, one = impl.FirstBad(called, evenChecker(1, 1, 0, 0))
		expect(t, told(letters, "called"), want, first, one)
		// There is a short word as well.
		called.Modules[0].Links = append(called.Modules[0].Links, act(0, 1, "b"))
		first, one = impl.FirstOfModule(called, 0)
		expect(t, told(letters, "b"), "b 0", first, one)
		// The first call stays open; the last one has to come back.
		to, three := impl.FirstTo(called, 1, exitOf(called, 1))
		want = told("["+w, 0)
		if len(w)+1 > impl.MaxWord {
			want = told("", impl.ErrLimit)
		}
		expect(t, told(letters, "open"), want, to, three)
	}
}

// TestFirstWordsOfThousands has words that are much too long.
func TestFirstWordsOfThousands(t *testing.T) {
	p := longPrograms()[0]
	for module, perLink := range []int64{457, 65, 9, 1} {
		for to := range p.Modules[module].Nodes {
			word, code := impl.FirstBetween(p, int64(module), 0, to)
			if perLink*to > impl.MaxWord {
				expectError(t, told("FirstBetween", module, to), impl.ErrLimit, code, word)
				continue
			}
			expect(t, told("FirstBetween", module, to), told(perLink*to, 0), len(word), code)
		}
	}
	reached, code := impl.ReachedNodes(p)
	all := []int64{0, 1, 2, 3, 4, 5, 6, 7}
	expect(t, "ReachedNodes", told([][]int64{all, all, all, all}, 0), reached, code)
	word, code := impl.FirstTo(p, 3, 7)
	expect(t, "the way down", "([(abababa 0", word, code)
	word, code = impl.FirstTo(p, 2, 7)
	expectError(t, "many calls that come back", impl.ErrLimit, code, word)
	word, code = impl.FirstTo(p, 2, 6)
	expect(t, "some that come back", "(["+strings.Repeat("(abababa]", 6)+" 0", word, code)
	safe, one := impl.IsSafe(p, evenChecker(1, 1, 0, 0))
	bad, two := impl.FirstBad(p, evenChecker(1, 1, 0, 0))
	expect(t, "a long word is refused", "false  0 3", safe, bad, one, two)
}

func TestFirstToAndReachedNodes(t *testing.T) {
	t.Parallel()
	codes, full := map[int64]int{}, 0
	for i, p := range searchedPrograms() {
		k := betweenByRounds(p)
		entries := k.entriesByRounds()
		want := make([][]int64, len(p.Modules))
		for module, m := range p.Modules {
			for node := range m.Nodes {
				u, known := k.wordTo(entries, int64(module), node)
				word, code := impl.FirstTo(p, int64(module), node)
				expect(t, told(i, p, module, node), u.told(known), word, code)
				codes[code]++
				if known {
					want[module] = append(want[module], node)
				}
				if len(word) == impl.MaxWord {
					full++
				}
			}
		}
		reached, code := impl.ReachedNodes(p)
		expect(t, told(i, p), told(want, 0), reached, code)
		if len(reached) != len(p.Modules) {
			t.Errorf("%v has the lists %v", p, reached)
		}
	}
	if codes[impl.OK] < 1000 || codes[impl.ErrNotFound] < 300 || codes[impl.ErrLimit] < 20 || full < 2 {
		t.Errorf("the codes are %v, and %d words have the greatest length", codes, full)
	}
}

// TestFirstToIsWritten looks for each word that is found among the runs, and for
// each one before it.
func TestFirstToIsWritten(t *testing.T) {
	t.Parallel()
	for i, p := range slices.Concat(smallPrograms(), samplePrograms()) {
		list := shortsOf(p, 5)
		most := len(list[len(list)-1].word)
		reached, one := impl.ReachedNodes(p)
		for module, m := range p.Modules {
			for node := range m.Nodes {
				isThere := func(x spot) bool { return x.module == int64(module) && x.node == node }
				word, code := impl.FirstTo(p, int64(module), node)
				at := slices.IndexFunc(list, func(u spelt) bool { return slices.ContainsFunc(u.spots, isThere) })
				switch {
				case at >= 0 && (word != list[at].word || code != impl.OK):
					t.Fatalf("%d, %v to %d, %d: got %q and the code %d, want %q", i, p, module, node, word, code, list[at].word)
				case at < 0 && code == impl.OK && (len(word) <= most || !slices.ContainsFunc(spotsBehind(p, spot{}, word), isThere)):
					t.Fatalf("%d, %v to %d, %d: got %q, which no run writes", i, p, module, node, word)
				}
				expect(t, told(i, "is reached", module, node), told(code != impl.ErrNotFound, 0), slices.Contains(reached[module], node), one)
			}
		}
	}
}

func TestKnownNodesThatAreReached(t *testing.T) {
	for _, test := range []struct {
		lines string
		want  [][]int64
	}{
		{"module 1", [][]int64{{0}}}, {"module 8", [][]int64{{0}}}, {"module 2; module 3; module 1", [][]int64{{0}, {}, {}}},
		{"module 3; link 0 2 a; link 1 0 b", [][]int64{{0, 2}}}, {"module 3; link 1 2 a", [][]int64{{0}}},
		{"module 3; link 0 1 () 1; link 1 2 a; module 2", [][]int64{{0}, {0}}}, // the call does not come back
		{"module 3; link 0 1 () 1; link 1 2 a; module 1", [][]int64{{0, 1, 2}, {0}}},
		{"module 3; link 0 1 () 1; link 1 2 a; module 2; link 0 0 b; link 0 1 [] 2; module 3; link 0 1 a", [][]int64{{0}, {0}, {0, 1}}},
		{"module 2; link 1 0 () 1; module 2; link 0 1 a; module 1", [][]int64{{0}, {}, {}}}, // the call stands where no run leads
		{"module 2; link 0 1 a; link 1 1 [] 1; module 2; link 0 1 (] 2; module 4; link 0 3 b", [][]int64{{0, 1}, {0, 1}, {0, 3}}},
		{"module 2; link 0 1 () 0", [][]int64{{0}}}, {"module 2; link 0 1 () 0; link 0 1 a", [][]int64{{0, 1}}},
		{"module 2; link 0 1 a; module 2; link 0 1 () 0; module 2; link 0 1 () 1", [][]int64{{0, 1}, {}, {}}},
		{"module 1; link 0 0 () 3; module 2; module 2; link 0 1 a; module 2; link 0 1 () 3; link 0 1 [] 1", [][]int64{{0}, {0}, {}, {0}}},
	} {
		reached, code := impl.ReachedNodes(program(test.lines))
		expect(t, test.lines, told(test.want, 0), reached, code)
	}
}

func TestKnownWordsToNodes(t *testing.T) {
	for _, test := range []struct {
		lines        string
		module, node int64
		want         string
	}{
		{"module 3; link 0 2 a; link 0 1 () 0; link 1 2 b", 0, 0, ""}, {"module 3; link 0 2 a; link 0 1 () 0; link 1 2 b", 0, 2, "a"},
		{"module 2; link 0 1 [] 1; link 0 1 b; module 2; link 0 1 a", 1, 0, "["}, {"module 2; link 0 1 [] 1; link 0 1 b; module 2; link 0 1 a", 1, 1, "[a"},
		{"module 2; link 0 1 [] 1; link 0 1 () 1; module 1", 1, 0, "("}, {"module 2; link 0 1 a; link 1 1 () 1; link 0 0 [] 1; module 2; link 0 1 b", 1, 1, "[b"},
		{"module 2; link 0 1 a; link 1 1 () 1; link 1 1 [] 2; module 2; link 0 1 [] 2; module 1", 2, 0, "a["}, {"module 2; link 0 1 () 1; link 0 0 a; module 2; link 0 1 [] 2; module 1; link 0 0 b", 2, 0, "(["},
		{"module 3; link 0 1 () 0; link 0 1 () 1; link 1 2 a; module 2; link 0 1 b", 0, 2, "(b)a"}, {"module 3; link 0 1 () 1; link 0 2 a; link 1 2 a; module 2; link 0 1 [] 0", 0, 1, "([a])"},
		{"module 2; link 0 1 () 1; module 3; link 0 2 b; link 0 1 a; link 1 2 (] 0", 1, 2, "(b"}, {"module 2; link 0 1 () 1; module 3; link 0 1 a; link 1 2 (] 0", 1, 1, "(a"},
		{"module 2; link 0 1 () 1; link 0 1 [] 1; link 0 1 a; link 1 1 b; module 1", 0, 1, "a"},
		{"module 4; link 0 1 a; link 0 2 [] 1; link 1 3 () 2; module 3; link 0 1 b; link 1 2 () 2; module 2; link 0 1 b", 2, 0, "a("},
		{"module 4; link 0 1 b; link 0 2 [] 1; link 1 3 () 2; module 3; link 0 1 b; link 0 2 () 2; module 2; link 0 1 b", 2, 1, "[(b"},
	} {
		word, code := impl.FirstTo(program(test.lines), test.module, test.node)
		expect(t, told(test.lines, test.module, test.node), told(test.want, 0), word, code)
	}
	for lines, module := range map[string]int64{"module 1; module 1": 1, "module 2; link 1 0 () 1; module 1": 1, "module 1; module 1; link 0 0 () 2; module 1": 2} {
		word, code := impl.FirstTo(program(lines), module, 0)
		expectError(t, lines, impl.ErrNotFound, code, word)
	}
	word, code := impl.FirstTo(program("module 2; link 0 1 () 1; module 2"), 0, 1)
	expectError(t, "a call that does not come back", impl.ErrNotFound, code, word)
	word, code = impl.FirstTo(chapterProgram(), 0, math.MaxInt64)
	expectError(t, "no node", impl.ErrRange, code, word)
}
