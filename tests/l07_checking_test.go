package tests

import (
	"slices"
	"strings"
	"testing"

	"loop.example/g01145/impl"
)

// refusing returns a checker that takes all words but those in which a symbol
// occurs count times, in numbers modulo a modulus.
func refusing(symbol string, modulus, count int64) impl.Checker {
	c := counting(symbol, modulus)
	for state := range c.Accept {
		c.Accept[state] = int64(state) != count
	}
	return c
}

func opposite(c impl.Checker) impl.Checker {
	c = copied(c)
	for state, accepting := range c.Accept {
		c.Accept[state] = !accepting
	}
	return c
}

// toldBad returns what FirstBad and IsSafe should return.
func (k *itemTable) toldBad() (string, string) {
	if len(k.words) > impl.MaxItems {
		return told("", impl.ErrLimit), told(false, impl.ErrLimit)
	}
	var first least
	found := false
	for state, accepting := range k.c.Accept {
		u, known := k.words[itemFrom(itemStart{0, 0, k.c.Start}, exitOf(k.p, 0), int64(state))]
		if known && !accepting && (!found || u.isBefore(first)) {
			first, found = u, true
		}
	}
	return first.told(found), told(!found, 0)
}

// checkBad compares with the items that are found by rounds; it returns how many
// of these there are, and the code of FirstBad.
func checkBad(t *testing.T, name string, p impl.Program, c impl.Checker) (int, int64) {
	t.Helper()
	k := itemsByRounds(p, c, impl.MaxItems, itemStart{0, 0, c.Start})
	wantBad, wantSafe := k.toldBad()
	bad, one := impl.FirstBad(p, c)
	safe, two := impl.IsSafe(p, c)
	if told(bad, one) != wantBad || told(safe, two) != wantSafe {
		t.Fatalf("%s, %v and %s: got %q and the code %d, %v and the code %d, want %s and %s", name, p, impl.CheckerText(c), bad, one, safe, two, wantBad, wantSafe)
	}
	if one == impl.OK {
		takes, three := impl.ProgramTakes(p, bad)
		expect(t, told(name, "the word is taken and refused", bad), "true 0 false", takes, three, takesByPlaces(c, bad))
	}
	return len(k.words), one
}

// badCheckers returns checkers of all sorts.
func badCheckers() []impl.Checker {
	l := lottery(743)
	list := []impl.Checker{impl.MatchedChecker(), impl.KindsChecker(), evenChecker(1, 1, 0, 0), opposite(evenChecker(1, 1, 0, 0)), opposite(impl.MatchedChecker()), opposite(impl.KindsChecker())}
	for depth := range int64(4) {
		shallow, _ := impl.DepthChecker(depth)
		list = append(list, shallow, opposite(shallow))
	}
	for _, symbol := range strings.Split(symbols, "") {
		for _, modulus := range []int64{2, 3, 5, 40} {
			list = append(list, counting(symbol, modulus), refusing(symbol, modulus, 1+l.below(modulus-1)))
		}
	}
	for i := range int64(30) {
		c := l.checker(2+i%5, 1+i%3)
		for state := range c.Accept {
			c.Accept[state] = l.below(4) > 0
		}
		list = append(list, c)
	}
	return append(list, sparseCheckers()[:20]...)
}

func TestFirstBadAndIsSafe(t *testing.T) {
	t.Parallel()
	l := lottery(751)
	list := badCheckers()
	codes, long := map[int64]int{}, 0
	for _, p := range searchedPrograms() {
		for range 8 {
			c := list[l.below(int64(len(list)))]
			_, code := checkBad(t, "FirstBad", p, c)
			codes[code]++
			if bad, _ := impl.FirstBad(p, c); len(bad) > 10 {
				long++
			}
		}
	}
	if codes[impl.OK] < 200 || codes[impl.ErrNotFound] < 200 || codes[impl.ErrLimit] < 50 || long < 50 {
		t.Errorf("the codes are %v, and %d words are long", codes, long)
	}
}

// TestNothingBadIsBefore looks at all short words of programs.
func TestNothingBadIsBefore(t *testing.T) {
	t.Parallel()
	l := lottery(757)
	checkers := badCheckers()
	for i, p := range slices.Concat(smallPrograms(), samplePrograms()) {
		var taken []string
		for _, u := range shortsOf(p, 6) {
			if slices.ContainsFunc(u.spots, func(x spot) bool { return isComplete(p, x) }) {
				taken = append(taken, u.word)
			}
		}
		for range 8 {
			c := checkers[l.below(int64(len(checkers)))]
			want, found := firstOfShort(taken, func(w string) bool { return !takesByPlaces(c, w) })
			bad, one := impl.FirstBad(p, c)
			safe, two := impl.IsSafe(p, c)
			if one == impl.ErrLimit {
				expect(t, told(i, "more items or symbols"), "false", safe)
				continue
			}
			if found && bad != want || found != (one == impl.OK) && (found || takesByPlaces(c, bad) || !takesBySpots(p, bad)) {
				t.Errorf("%d, %v and %s: got %q and the code %d, want %q", i, p, impl.CheckerText(c), bad, one, want)
			}
			expect(t, told(i, "safe"), told(one == impl.ErrNotFound, 0), safe, two)
		}
	}
}

func TestKnownBadWords(t *testing.T) {
	kinds, matched := impl.KindsChecker(), impl.MatchedChecker()
	shallow, _ := impl.DepthChecker(1)
	for _, test := range []struct {
		lines string
		c     impl.Checker
		want  string
	}{
		{"module 1", evenChecker(1, 1, 0, 0), ""}, {"module 2", evenChecker(1, 1, 0, 0), "none"}, {"module 1; link 0 0 a", refusing("a", 3, 2), "aa"}, {"module 1; link 0 0 b", refusing("a", 3, 2), "none"},
		{"module 3; link 0 2 a; link 0 1 () 0; link 1 2 b", matched, "none"}, {"module 3; link 0 2 a; link 0 1 () 0; link 1 2 b", opposite(matched), "a"},
		{"module 3; link 0 2 a; link 0 1 () 0; link 1 2 b", kinds, "none"}, {"module 3; link 0 2 a; link 0 1 (] 0; link 1 2 b", kinds, "(a]b"},
		{"module 3; link 0 2 a; link 0 1 () 0; link 1 2 b", shallow, "((a)b)b"}, {"module 2; link 0 1 () 1; link 0 1 a; module 1; link 0 0 a", shallow, "none"},
		{"module 2; link 0 1 () 1; link 0 1 [] 1; module 2; link 0 1 a; link 0 1 b", counting("a", 2), "(a)"}, {"module 2; link 0 1 () 1; link 0 1 [] 1; module 2; link 0 1 a; link 0 1 b", counting("b", 2), "(b)"},
		{"module 2; link 0 1 [) 1; link 0 1 [] 1; module 2; link 0 1 a; link 0 1 b", kinds, "[a)"}, {"module 2; link 0 1 (] 1; link 0 1 [) 2; link 0 1 () 1; module 2; link 0 1 b; module 2; link 0 1 a", kinds, "(b]"},
		{"module 1; link 0 0 () 0; link 0 0 a", refusing("a", 5, 2), "aa"}, {"module 1; link 0 0 () 1; module 1; link 0 0 a", refusing("a", 5, 2), "(aa)"},
		{"module 1; link 0 0 () 1; link 0 0 b; module 2; link 0 1 a", refusing("a", 5, 2), "(a)(a)"}, {"module 1; link 0 0 () 1; link 0 0 b; module 2; link 0 1 a; link 0 1 [] 1", refusing("[", 5, 2), "([[a]])"},
	} {
		p := program(test.lines)
		checkBad(t, test.lines, p, test.c)
		bad, one := impl.FirstBad(p, test.c)
		safe, two := impl.IsSafe(p, test.c)
		want := told(test.want, 0, false, 0)
		if test.want == "none" {
			want = told("", impl.ErrNotFound, true, 0)
		}
		expect(t, test.lines, want, bad, one, safe, two)
	}
}

// TestStacksOfCheckedPrograms has a checker that tells from its mark whether it
// takes a word.
func TestStacksOfCheckedPrograms(t *testing.T) {
	c := impl.Checker{Stack: 2, Accept: []bool{true, true, false}, Call: [][]impl.Push{{{To: 1, Put: 0}, {To: 1, Put: 1}}, {{To: 1, Put: 0}, {To: 1, Put: 1}}, {{To: 2}, {To: 2}}},
		Return: [][][]int64{{{2, 2, 2}, {2, 2, 2}}, {{1, 2, 2}, {2, 1, 2}}, {{2, 2, 2}, {2, 2, 2}}}, Inner: [][]int64{{0, 0}, {1, 1}, {2, 2}}}
	for lines, want := range map[string]string{
		"module 2; link 0 1 () 1; link 0 1 [] 1; module 1; link 0 0 a; link 0 0 () 1; link 0 0 [] 1": " 6", "module 2; link 0 1 () 1; link 0 1 [] 1; module 1; link 0 0 a; link 0 0 [) 1": "([)) 0",
		"module 2; link 0 1 () 1; link 0 1 [) 2; module 1; module 2; link 0 1 a": "[a) 0", "module 2; link 0 1 () 1; link 0 1 (] 1; module 2; link 0 1 [] 2; module 2; link 0 1 b": "([b]] 0",
	} {
		bad, code := impl.FirstBad(program(lines), c)
		expect(t, lines, want, bad, code)
		checkBad(t, lines, program(lines), c)
	}
}

// TestCheckersThatTakeAllOrNone have the first word of the program as a bad one,
// or nothing.
func TestCheckersThatTakeAllOrNone(t *testing.T) {
	none, all := evenChecker(1, 1, 0, 0), opposite(evenChecker(1, 1, 0, 0))
	for i, p := range searchedPrograms() {
		first, one := impl.FirstOfModule(p, 0)
		bad, two := impl.FirstBad(p, none)
		safe, three := impl.IsSafe(p, none)
		expect(t, told("none", i, p), told(first, one, one == impl.ErrNotFound, 0), bad, two, safe, three)
		bad, two = impl.FirstBad(p, all)
		safe, three = impl.IsSafe(p, all)
		expect(t, told("all", i, p), told("", impl.ErrNotFound, true, 0), bad, two, safe, three)
		// All words of programs are matched.
		_, two = impl.FirstBad(p, impl.MatchedChecker())
		safe, three = impl.IsSafe(p, impl.MatchedChecker())
		if two != impl.ErrNotFound || !safe || three != impl.OK {
			t.Errorf("%d, %v: got the code %d, %v and the code %d", i, p, two, safe, three)
		}
	}
}

// TestBadWordsLengths has first bad words of exactly MaxWord symbols, and longer
// ones.
func TestBadWordsLengths(t *testing.T) {
	pairs := programOf(ring("()1"), ring())
	tail := program("module 2; link 0 0 () 1; link 0 1 a; module 1")
	inside := programOf(line("[]1"), ring("(]2"), ring())
	for count := range int64(40) {
		c := refusing("(", 40, count)
		for _, test := range []struct {
			p    impl.Program
			want string
		}{
			{pairs, strings.Repeat("()", int(count))}, {tail, strings.Repeat("()", int(count)) + "a"}, {inside, "[" + strings.Repeat("(]", int(count)) + "]"},
		} {
			bad, one := impl.FirstBad(test.p, c)
			safe, two := impl.IsSafe(test.p, c)
			if len(test.want) > impl.MaxWord {
				expectError(t, told("a long word", count), impl.ErrLimit, one, bad)
			} else {
				expect(t, test.want, told(test.want, 0), bad, one)
			}
			expect(t, test.want, "false 0", safe, two)
		}
	}
}

func TestDeepBadWords(t *testing.T) {
	for most := range int64(10) {
		shallow, _ := impl.DepthChecker(most)
		want := strings.Repeat("(", int(most)+1) + "a" + strings.Repeat(")b", int(most)+1)
		bad, one := impl.FirstBad(chapterProgram(), shallow)
		safe, two := impl.IsSafe(chapterProgram(), shallow)
		expect(t, told("a depth of", most), told(want, 0, false, 0), bad, one, safe, two)
	}
}

// TestFirstWordsBeyondCounting has a module that calls itself seven times, down to
// a depth at which a checker allows a letter. The lengths of these words have
// more than twenty digits.
func TestFirstWordsBeyondCounting(t *testing.T) {
	const most = 22
	p := programOf(line("()0", "()0", "()0", "()0", "()0", "()0", "()0"))
	p.Modules[0].Links = append(p.Modules[0].Links, act(0, 7, "a"))
	dead := int64(most + 1)
	c := evenChecker(dead+1, 1, dead, 0)
	c.Start, c.Accept = 0, slices.Repeat([]bool{true}, most+2)
	for depth := range int64(most) {
		c.Call[depth][0].To, c.Return[depth+1][0][0] = depth+1, depth
	}
	c.Inner[most][0] = most
	checkBad(t, "nothing is bad", p, c)
	c.Accept[0] = false
	bad, one := impl.FirstBad(p, c)
	safe, two := impl.IsSafe(p, c)
	expect(t, "a very long word is bad", " 3 false 0", bad, one, safe, two)
	checkBad(t, "a very long word is bad", p, c)
}

// chainOfLoops returns a module with a link "b" from each node to the next one,
// and a link from the node at to itself, if there is such a node.
func chainOfLoops(nodes, at int64, text string) impl.Module {
	m := impl.Module{Nodes: nodes}
	for node := range nodes - 1 {
		m.Links = append(m.Links, act(node, node+1, "b"))
	}
	if at < nodes {
		m.Links = append(m.Links, act(at, at, text))
	}
	return m
}

// calling adds a link from the last node of a module to itself.
func calling(m impl.Module, text string) impl.Module {
	m.Links = append(slices.Clone(m.Links), act(m.Nodes-1, m.Nodes-1, text))
	return m
}

// TestNumbersOfItems has exactly as many quadruples as there may be, and one more.
func TestNumbersOfItems(t *testing.T) {
	all, most := chainOfLoops(8, 0, "a"), chainOfLoops(8, 1, "a")
	for _, test := range []struct {
		p       impl.Program
		symbol  string
		modulus int64
		want    int
	}{
		{programOf(ring()), "a", 40, 1}, {programOf(all), "a", 40, 320}, {programOf(line("b", "b")), "a", 40, 3}, {programOf(most), "a", 40, 281},
		{programOf(calling(all, "()1"), line("b")), "a", 40, 400}, {programOf(calling(most, "()1"), line("b", "b")), "a", 40, 401},
		{programOf(calling(all, "()1"), ring("[]2"), ring()), "a", 40, 400}, {programOf(calling(most, "()1"), ring("[]2"), ring("[)3"), ring()), "a", 40, 401},
		{programOf(calling(all, "()1"), line("b"), all), "a", 40, 400}, {programOf(calling(most, "()1"), line("b", "b"), all), "a", 40, 401}, // a module that is never called
		{programOf(calling(all, "()1"), impl.Module{Nodes: 8, Links: []impl.Link{act(0, 7, "b"), act(3, 4, "a")}}), "a", 40, 400}, // nodes to which no run leads
		{programOf(calling(all, "()1"), impl.Module{Nodes: 2}, impl.Module{Nodes: 8}), "a", 40, 360}, {programOf(calling(chainOfLoops(2, 0, "a"), "()1"), ring("a")), "a", 18, 360},
		{programOf(ring("a", "()1"), ring("a")), "a", 19, 380}, {programOf(ring("a", "()1"), ring("a")), "a", 20, 420}, {programOf(ring("a", "()0")), "a", 20, 400}, {programOf(ring("a", "()0")), "a", 21, 441},
		{programOf(line("b", "a"), all), "a", 40, 3}, {programOf(line("b", "()0"), all), "a", 40, 2},
		// Many of these have first words of more than MaxWord symbols.
		{programOf(chainOfLoops(8, 0, "()1"), line("b")), "(", 40, 400}, {programOf(chainOfLoops(8, 1, "()1"), line("b", "b")), "(", 40, 401},
		{programOf(chainOfLoops(8, 0, "[]1"), line("b")), "[", 40, 400}, {programOf(chainOfLoops(8, 1, "[]1"), line("b", "b")), "[", 40, 401},
	} {
		for _, c := range []impl.Checker{counting(test.symbol, test.modulus), refusing(test.symbol, test.modulus, 0), refusing(test.symbol, test.modulus, test.modulus-1), refusing(test.symbol, test.modulus, -1)} {
			count, code := checkBad(t, told("items", test.want), test.p, c)
			if test.want <= impl.MaxItems && count != test.want || test.want > impl.MaxItems && (count <= impl.MaxItems || code != impl.ErrLimit) {
				t.Errorf("%v: %d items and the code %d, want %d", test.p, count, code, test.want)
			}
		}
	}
}

// TestItemsComeAheadOfWords has one quadruple too many, and words that are bad at
// once, too long or not there.
func TestItemsComeAheadOfWords(t *testing.T) {
	fits := programOf(calling(chainOfLoops(8, 0, "a"), "()1"), line("b"))
	more := programOf(calling(chainOfLoops(8, 1, "a"), "()1"), line("b", "b"))
	takesAll := refusing("a", 40, -1)
	for _, c := range []impl.Checker{counting("a", 40), opposite(counting("a", 40)), refusing("a", 40, 39), takesAll, opposite(takesAll)} {
		bad, one := impl.FirstBad(more, c)
		expectError(t, "FirstBad", impl.ErrLimit, one, bad)
		safe, two := impl.IsSafe(more, c)
		expectError(t, "IsSafe", impl.ErrLimit, two, safe)
	}
	bad, one := impl.FirstBad(fits, takesAll)
	safe, two := impl.IsSafe(fits, takesAll)
	expect(t, "nothing is bad", " 6 true 0", bad, one, safe, two)
	bad, one = impl.FirstBad(fits, refusing("a", 40, 39))
	expect(t, "the last state", strings.Repeat("a", 39)+"bbbbbbb 0", bad, one)
	p := programOf(chainOfLoops(8, 0, "()1"), line("b"))
	bad, one = impl.FirstBad(p, refusing("(", 40, 39))
	safe, two = impl.IsSafe(p, refusing("(", 40, 39))
	expect(t, "a long word", " 3 false 0", bad, one, safe, two)
}

// TestItemsNearTheLimit looks for checkers with which there are just few enough
// quadruples.
func TestItemsNearTheLimit(t *testing.T) {
	t.Parallel()
	l := lottery(761)
	near := map[bool]int{}
	for range 150 {
		p := l.program(1+l.below(4), 1+l.below(8), 4+l.below(9), l.below(6))
		symbol := []string{"a", "b", "(", "["}[l.below(4)]
		check := func(modulus int) int {
			count, code := checkBad(t, "near the limit", p, refusing(symbol, int64(modulus), int64(modulus)/2))
			near[count > impl.MaxItems && code == impl.ErrLimit]++
			return count
		}
		few, many := 0, impl.MaxStates+1
		for few+1 < many {
			if middle := (few + many) / 2; check(middle) > impl.MaxItems {
				many = middle
			} else {
				few = middle
			}
		}
	}
	if near[true] < 100 || near[false] < 300 {
		t.Errorf("above and below the limit: %v", near)
	}
}
