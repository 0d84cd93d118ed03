package tests

import (
	"slices"
	"strings"
	"testing"

	"loop.example/g01145/impl"
)

// student learns as the document tells, with plain lists.
type student struct {
	checker  impl.Checker
	answers  map[string]bool
	words    []string
	contexts []impl.Context
	met      experience
}

// experience tells what has been met in learning.
type experience struct {
	longest int // question
	// fronts and backs count the contexts that come from products which depend on
	// how they are put together, changes those from words.
	changes, fronts, backs int
	limit                  stuck
}

// stuck is what a student panics with at a limit.
type stuck string

const (
	longQuestion = stuck("a question is too long")
	tooManyWords = stuck("there are too many words")
	tooManyPairs = stuck("there are too many pairs, or the words of some are too long")
)

func (s *student) ask(word string) bool {
	s.met.longest = max(s.met.longest, len(word))
	if len(word) > impl.MaxWord {
		panic(longQuestion)
	}
	if _, asked := s.answers[word]; !asked {
		s.answers[word] = takesByPlaces(s.checker, word)
	}
	return s.answers[word]
}

func (s *student) askIn(x impl.Context, word string) bool { return s.ask(x.Front + word + x.Back) }

func (s *student) row(word string) []bool {
	var row []bool
	for _, x := range s.contexts {
		row = append(row, s.askIn(x, word))
	}
	return row
}

// place returns the number of the word of the list with the row of a word, or -1.
func (s *student) place(word string) int64 {
	row := s.row(word)
	return int64(slices.IndexFunc(s.words, func(w string) bool { return slices.Equal(s.row(w), row) }))
}

func (s *student) candidates() []string {
	list := []string{"a", "b"}
	for _, w := range s.words {
		for pair := range pairTexts {
			list = append(list, wrapped(pair, w))
		}
	}
	for _, u := range s.words {
		for _, w := range s.words {
			list = append(list, u+w)
		}
	}
	return list
}

func (s *student) addWords() {
	for {
		list := s.candidates()
		next := slices.IndexFunc(list, func(w string) bool { return s.place(w) < 0 })
		if next < 0 {
			return
		}
		if len(s.words) == impl.MaxLearnt {
			panic(tooManyWords)
		}
		s.words = append(s.words, list[next])
	}
}

func (s *student) algebra() impl.Algebra {
	a := impl.Algebra{Inner: []int64{s.place("a"), s.place("b")}, Wrap: make([][]int64, 4)}
	for _, u := range s.words {
		var row []int64
		for _, w := range s.words {
			row = append(row, s.place(u+w))
		}
		a.Product = append(a.Product, row)
		for pair := range pairTexts {
			a.Wrap[pair] = append(a.Wrap[pair], s.place(wrapped(pair, u)))
		}
		a.Accept = append(a.Accept, s.askIn(s.contexts[0], u))
	}
	return a
}

// firstWrong returns the first word for which an algebra is not right.
func (s *student) firstWrong(a impl.Algebra) (string, bool) {
	values, words, fits := firstWordsOf(ofBoth(ofElements(a), ofStates(s.checker)), impl.MaxPairs)
	if !fits {
		panic(tooManyPairs)
	}
	for i, value := range values {
		element, summary, _ := strings.Cut(value, between)
		if a.Accept[element[0]] != s.checker.Accept[summary[s.checker.Start]] {
			return words[i], true
		}
	}
	return "", false
}

// step replaces a part of a whole word.
type step struct{ front, part, word, back string }

// steps returns the steps by which a word is reduced between front and back, and
// the element to the word of which it is.
func (s *student) steps(a impl.Algebra, front, word, back string) ([]step, int64) {
	var list []step
	have := int64(0)
	for _, piece := range piecesOf(word) {
		word = word[len(piece):]
		inFront, behind := front+s.words[have], word+back
		next, end := a.Inner[symbolKind(piece[0])], len(piece)-1
		if end > 0 {
			bodySteps, body := s.steps(a, inFront+piece[:1], piece[1:end], piece[end:]+behind)
			list = append(list, bodySteps...)
			next = a.Wrap[2*symbolKind(piece[0])+symbolKind(piece[end])][body]
			piece = piece[:1] + s.words[body] + piece[end:]
		}
		product := a.Product[have][next]
		list = append(list, step{inFront, piece, s.words[next], behind},
			step{front, s.words[have] + s.words[next], s.words[product], behind})
		have = product
	}
	return list, have
}

func (s *student) contextOf(a impl.Algebra, word string) impl.Context {
	list, _ := s.steps(a, "", word, "")
	for _, replaced := range list {
		x := impl.Context{Front: replaced.front, Back: replaced.back}
		if s.askIn(x, replaced.part) != s.askIn(x, replaced.word) {
			return x
		}
	}
	panic("no step changes the answer")
}

// unevenProducts returns the first three elements the product of which depends
// on how they are put together.
func unevenProducts(a impl.Algebra) ([]int64, bool) {
	for i := range a.Product {
		for k := range a.Product {
			for j := range a.Product {
				if a.Product[a.Product[i][k]][j] != a.Product[i][a.Product[k][j]] {
					return []int64{int64(i), int64(k), int64(j)}, true
				}
			}
		}
	}
	return nil, false
}

func (s *student) contextOfThree(a impl.Algebra, i, k, j int64) impl.Context {
	p, q := a.Product[i][k], a.Product[k][j]
	one, two := s.words[a.Product[p][j]], s.words[a.Product[i][q]]
	for _, x := range s.contexts {
		if s.askIn(x, one) == s.askIn(x, two) {
			continue
		}
		if s.askIn(x, s.words[i]+s.words[k]+s.words[j]) != s.askIn(x, s.words[p]+s.words[j]) {
			s.met.backs++
			return impl.Context{Front: x.Front, Back: s.words[j] + x.Back}
		}
		s.met.fronts++
		return impl.Context{Front: x.Front + s.words[i], Back: x.Back}
	}
	panic("no context tells the products apart")
}

func (s *student) learn() (a impl.Algebra, learnt bool) {
	defer func() {
		switch limit := recover().(type) {
		case nil:
		case stuck:
			s.met.limit = limit
			a, learnt = impl.Algebra{}, false
		default:
			panic(limit)
		}
	}()
	for {
		s.addWords()
		a = s.algebra()
		if word, wrong := s.firstWrong(a); wrong {
			s.met.changes++
			s.contexts = append(s.contexts, s.contextOf(a, word))
		} else if three, uneven := unevenProducts(a); uneven {
			s.contexts = append(s.contexts, s.contextOfThree(a, three[0], three[1], three[2]))
		} else {
			return a, true
		}
	}
}

func newStudent(c impl.Checker) *student {
	return &student{checker: c, answers: map[string]bool{}, words: []string{""}, contexts: []impl.Context{{}}}
}

// checkLearnt compares what is learnt with what a student learns.
func checkLearnt(t *testing.T, c impl.Checker) (experience, bool) {
	t.Helper()
	s := newStudent(c)
	want, learns := s.learn()
	a, words, contexts, code := impl.LearnAlgebra(c)
	if !learns {
		expectError(t, told("LearnAlgebra", c), impl.ErrLimit, code, a, words, contexts)
		return s.met, false
	}
	expectAlgebra(t, told("LearnAlgebra", c), want, a, code)
	if !slices.Equal(words, s.words) || !slices.Equal(contexts, s.contexts) {
		t.Errorf("LearnAlgebra of %v: got %q and %q, want %q and %q", c, words, contexts, s.words, s.contexts)
	}
	return s.met, true
}

// flatChecker has moves at inner letters alone; calls and returns lead to 0. Its
// products depend on how they are put together for long.
func (l *lottery) flatChecker(states int64) impl.Checker {
	c := evenChecker(states, 1, 0, 0)
	for state := range states {
		c.Inner[state] = l.list(2, states)
		c.Accept[state] = l.below(3) == 0
	}
	return c
}

// compactChecker returns a checker that takes the matched words that an algebra
// takes, with a state for each element.
func compactChecker(a impl.Algebra) impl.Checker {
	size := int64(len(a.Accept))
	c := impl.Checker{Stack: 2 * size, Accept: a.Accept}
	for s := range size {
		var returns [][]int64
		for kind := range int64(2) {
			var list []int64
			for mark := range 2 * size {
				list = append(list, a.Product[mark/2][a.Wrap[2*(mark%2)+kind][s]])
			}
			returns = append(returns, append(list, s))
		}
		c.Call = append(c.Call, []impl.Push{{To: 0, Put: 2 * s}, {To: 0, Put: 2*s + 1}})
		c.Return = append(c.Return, returns)
		c.Inner = append(c.Inner, []int64{a.Product[s][a.Inner[0]], a.Product[s][a.Inner[1]]})
	}
	return c
}

// learnableCheckers returns checkers of which most can be learnt.
func learnableCheckers() []impl.Checker {
	l := lottery(151)
	list := []impl.Checker{oddChecker(), impl.MatchedChecker(), impl.KindsChecker(), chainChecker(6), countingBoth("(", 3, "a", 2), countingBoth("b", 2, "]", 4)}
	for i := range int64(60) {
		list = append(list, l.checker(1+i%4, 1+i%3), l.flatChecker(2+i%4), l.flatChecker(3+i%3))
	}
	for n := range int64(10) {
		depth, _ := impl.DepthChecker(n)
		opposite, _ := impl.OppositeChecker(counting("[", n+1))
		list = append(list, depth, counting("a", n+1), opposite)
	}
	for _, a := range sampleAlgebras() {
		if l.below(8) == 0 && len(a.Accept) < 13 {
			list = append(list, compactChecker(a))
		}
	}
	return list
}

func TestLearnAlgebra(t *testing.T) {
	t.Parallel()
	var all experience
	learnt, limits := 0, map[stuck]int{}
	for _, c := range learnableCheckers() {
		met, learns := checkLearnt(t, c)
		if learns {
			learnt++
			all.changes += met.changes
			all.fronts += met.fronts
			all.backs += met.backs
		}
		limits[met.limit]++
	}
	if learnt < 100 || limits[tooManyPairs] < 3 || all.changes < 50 || all.fronts < 10 || all.backs < 3 {
		t.Errorf("%d are learnt, with %v, and the limits are %v", learnt, all, limits)
	}
}

// TestLearntAlgebrasAreLeast looks at what is promised of all of them.
func TestLearntAlgebrasAreLeast(t *testing.T) {
	t.Parallel()
	for _, c := range learnableCheckers() {
		a, words, contexts, code := impl.LearnAlgebra(c)
		least, again := impl.LeastAlgebra(c)
		if code != impl.OK || again != impl.OK {
			continue
		}
		merged, code := impl.MergeAlgebra(a)
		expectAlgebra(t, told("learnt and merged", c), least, merged, code)
		if !impl.ValidAlgebra(a) || len(a.Accept) != len(least.Accept) || len(words) != len(a.Accept) {
			t.Errorf("%v: learnt %v, with the words %q", c, a, words)
		}
		rows := map[string]bool{}
		for i, word := range words {
			element, _ := impl.ElementOf(a, word)
			row, code := impl.RowOf(c, word, contexts)
			expect(t, word, told(i, 0, takesByPlaces(c, word)), element, code, row[0])
			rows[told(row)] = true
		}
		if len(rows) != len(words) || contexts[0] != (impl.Context{}) {
			t.Errorf("%v: %d rows, with the contexts %q", c, len(rows), contexts)
		}
	}
}

// tailedAlgebra has an element for the words with each number of calls "(" and
// of as many returns ")", up to depth, one for "a", one for the longest of these
// words with "a" behind it, and a last one for all others.
func tailedAlgebra(depth int64) impl.Algebra {
	a := bareAlgebra(depth + 4)
	for e := range depth {
		a.Wrap[0][e] = e + 1
	}
	a.Inner[0], a.Product[depth][depth+1] = depth+1, depth+2
	a.Accept[depth+2] = true
	return a
}

// forwardAlgebra has elements that are met one behind the other.
func forwardAlgebra(l lottery, size int64) impl.Algebra {
	a := bareAlgebra(size)
	next := int64(1)
	meet := func(e *int64) {
		if next < size-1 && l.below(3) > 0 {
			*e = next
			next++
		} else if l.below(2) == 0 {
			*e = l.below(next)
		}
	}
	meet(&a.Inner[0])
	meet(&a.Inner[1])
	for e := int64(0); e < min(size, next); e++ {
		for pair := range a.Wrap {
			meet(&a.Wrap[pair][e])
		}
	}
	for e := range a.Accept {
		a.Accept[e] = l.below(2) == 0
	}
	return a
}

// takingNothing returns a checker that only differs in that it takes no word.
func takingNothing(c impl.Checker) impl.Checker {
	c.Accept = make([]bool, len(c.Accept))
	return c
}

func TestLearningLimits(t *testing.T) {
	t.Parallel()
	nothing := takingNothing
	longest := centredAlgebra(11)
	longest.Accept[10] = true
	for _, known := range []struct {
		name     string
		checker  impl.Checker
		elements int
		limit    stuck
	}{
		{"20 words", compactChecker(forwardAlgebra(1, 20)), 20, ""},
		{"21 words", compactChecker(forwardAlgebra(14, 21)), 0, tooManyWords},
		{"questions of 60 symbols", compactChecker(deepAlgebra(10)), 12, ""},
		{"questions of 61 symbols", compactChecker(longest), 0, longQuestion},
		{"questions of 62 symbols", compactChecker(deepAlgebra(11)), 0, longQuestion},
		{"64 pairs", nothing(roundChecker(32, 5)), 1, ""},
		{"65 pairs", nothing(chainChecker(33)), 0, tooManyPairs},
		{"66 pairs", nothing(roundChecker(33, 5)), 0, tooManyPairs},
		{"first words of 60 symbols", nothing(compactChecker(deepAlgebra(30))), 1, ""},
		{"first words of 61 symbols", nothing(compactChecker(tailedAlgebra(30))), 0, tooManyPairs},
		{"first words of 62 symbols", nothing(compactChecker(deepAlgebra(31))), 0, tooManyPairs},
		{"72 pairs while there are 8 words", counting("a", 9), 0, tooManyPairs},
	} {
		met, learns := checkLearnt(t, known.checker)
		a, _, _, _ := impl.LearnAlgebra(known.checker)
		expect(t, known.name, told(known.elements, known.limit, known.limit == ""), len(a.Accept), met.limit, learns)
		if strings.HasPrefix(known.name, "questions") && !strings.Contains(known.name, told(met.longest)) {
			t.Errorf("%s: the longest one has %d", known.name, met.longest)
		}
	}
}

func TestLearntByHand(t *testing.T) {
	// "aa" is first taken for nothing, then "a" for "aaa".
	a, words, contexts, code := impl.LearnAlgebra(counting("a", 3))
	expectAlgebra(t, "three times a", impl.Algebra{
		Product: [][]int64{{0, 1, 2}, {1, 2, 0}, {2, 0, 1}},
		Wrap:    [][]int64{{0, 1, 2}, {0, 1, 2}, {0, 1, 2}, {0, 1, 2}},
		Inner:   []int64{1, 0},
		Accept:  []bool{true, false, false},
	}, a, code)
	expect(t, "three times a", "[ a aa] [{ } { a}]", words, contexts)
}
