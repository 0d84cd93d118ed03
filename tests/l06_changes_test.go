package tests

import (
	"slices"
	"strings"
	"testing"

	"loop.example/g01145/impl"
)

// editChange is what an edit makes of a word: the word behind it, and for each place
// of the word before it the place behind it, or -1 if its symbol is left out.
type editChange struct {
	word   string
	places []int64
}

// changeOf looks at what each place becomes; it expects a word and a valid edit.
func changeOf(w string, e impl.TreeEdit) (editChange, int64) {
	length := int64(len(w))
	switch e.Kind {
	case impl.EdPut:
		switch {
		case e.At > length:
			return editChange{}, impl.ErrRange
		case len(w)+len(e.Text) > impl.MaxWord:
			return editChange{}, impl.ErrLimit
		}
		return changed(w, func(i int64) string { return textIf(i == e.At, e.Text) }, keptIn(w)), impl.OK
	case impl.EdWrap:
		switch {
		case e.At > length || e.To > length || e.At > e.To:
			return editChange{}, impl.ErrRange
		case coreByCancelling(w[e.At:e.To]) != "":
			return editChange{}, impl.ErrState
		case len(w)+2 > impl.MaxWord:
			return editChange{}, impl.ErrLimit
		}
		return changed(w, func(i int64) string { return textIf(i == e.At, e.Text[:1]) + textIf(i == e.To, e.Text[1:]) }, keptIn(w)), impl.OK
	}
	if e.At >= length {
		return editChange{}, impl.ErrRange
	}
	end := partnersByBalance(w)[e.At]
	if !isCall(w[e.At]) || end < 0 {
		return editChange{}, impl.ErrState
	}
	nothing := func(int64) string { return "" }
	return changed(w, nothing, func(i int64) string {
		switch {
		case e.Kind == impl.EdCut && i >= e.At && i <= end, e.Kind == impl.EdOpen && (i == e.At || i == end):
			return ""
		case e.Kind == impl.EdName && i == e.At:
			return e.Text[:1]
		case e.Kind == impl.EdName && i == end:
			return e.Text[1:]
		}
		return w[i : i+1]
	}), impl.OK
}

func textIf(yes bool, text string) string {
	if yes {
		return text
	}
	return ""
}

func keptIn(w string) func(i int64) string { return func(i int64) string { return w[i : i+1] } }

// changed writes what stands in front of each place, or behind the last one, and
// what the symbol at it becomes.
func changed(w string, front, become func(i int64) string) editChange {
	var c editChange
	for i := range int64(len(w)) {
		c.word += front(i)
		place := int64(-1)
		if become(i) != "" {
			place = int64(len(c.word))
		}
		c.places = append(c.places, place)
		c.word += become(i)
	}
	c.word += front(int64(len(w)))
	return c
}

// undoneBy returns the edit that undoes another one that can be made.
func undoneBy(w string, e impl.TreeEdit) (impl.TreeEdit, int64) {
	end := int64(-1)
	if e.At < int64(len(w)) {
		end = partnersByBalance(w)[e.At]
	}
	switch e.Kind {
	case impl.EdPut:
		whole := len(e.Text) > 0 && partnersByBalance(e.Text)[0] == int64(len(e.Text))-1
		switch {
		case e.Text == "":
			return putAt(e.At, ""), impl.OK
		case whole:
			return cutAt(e.At), impl.OK
		}
		return impl.TreeEdit{}, impl.ErrState
	case impl.EdCut:
		return putAt(e.At, w[e.At:end+1]), impl.OK
	case impl.EdOpen:
		return wrapAt(e.At, end-1, string([]byte{w[e.At], w[end]})), impl.OK
	case impl.EdWrap:
		return openAt(e.At), impl.OK
	}
	return nameAt(e.At, string([]byte{w[e.At], w[end]})), impl.OK
}

// shortEdits returns edits of short words.
func shortEdits() []impl.TreeEdit {
	var list []impl.TreeEdit
	for at := range int64(7) {
		for _, text := range []string{"", "a", "ab", "()", "[)", "(a)", "[()b]", "()[]", "a()", "()b"} {
			list = append(list, putAt(at, text))
		}
		list = append(list, cutAt(at), openAt(at))
		for _, pair := range pairTexts {
			list = append(list, nameAt(at, pair))
		}
		for to := range int64(7) {
			list = append(list, wrapAt(at, to, pairTexts[(at+to)%4]))
		}
	}
	return append(list, putAt(60, "()"), putAt(60, ""), cutAt(60), openAt(60), wrapAt(60, 60, "()"), wrapAt(0, 60, "()"), nameAt(60, "()"))
}

// checkEdit compares an edit, and the one that undoes it, with what they should
// be, and returns the code.
func checkEdit(t *testing.T, w string, e impl.TreeEdit) int64 {
	t.Helper()
	edited, code := impl.EditTree(w, e)
	back, undo := impl.UndoTreeEdit(w, e)
	want, wantCode := changeOf(w, e)
	if edited != want.word || code != wantCode {
		t.Fatalf("%q and %q: got %q and the code %d, want %q and %d", w, textOfEdit(e), edited, code, want.word, wantCode)
	}
	if code != impl.OK {
		expectError(t, "UndoTreeEdit of "+w+" and "+textOfEdit(e), code, undo, back)
		return code
	}
	checkMatching(t, w, e, want)
	wantBack, wantUndo := undoneBy(w, e)
	if back != wantBack || undo != wantUndo {
		t.Fatalf("%q and %q: got %v and the code %d, want %v and %d", w, textOfEdit(e), back, undo, wantBack, wantUndo)
	}
	if undo == impl.OK {
		again, last := impl.EditTree(edited, back)
		if again != w || last != impl.OK || !impl.ValidTreeEdit(back) {
			t.Fatalf("%q and %q, undone by %v: got %q and the code %d", w, textOfEdit(e), back, again, last)
		}
	}
	return undo
}

// checkMatching checks that what is left matches as before, and that all that is
// new is matched.
func checkMatching(t *testing.T, w string, e impl.TreeEdit, c editChange) {
	t.Helper()
	partners, behind := partnersByBalance(w), partnersByBalance(c.word)
	isOld := make([]bool, len(c.word))
	for i, place := range c.places {
		if place < 0 {
			continue
		}
		isOld[place] = true
		want := partners[i]
		if want >= 0 {
			want = c.places[want]
		}
		if behind[place] != want {
			t.Fatalf("%q and %q: the place %d matches %d behind it", w, textOfEdit(e), i, behind[place])
		}
	}
	for place, old := range isOld {
		if !old && behind[place] == -2 {
			t.Fatalf("%q and %q: the place %d is pending", w, textOfEdit(e), place)
		}
	}
	if got, code := impl.IsMatched(c.word); got != (coreByCancelling(w) == "") || code != impl.OK {
		t.Fatalf("%q and %q: matched is %v", w, textOfEdit(e), got)
	}
}

func TestKnownEdits(t *testing.T) {
	for _, known := range []struct {
		w    string
		e    impl.TreeEdit
		want string
		back string
	}{
		{"ab", wrapAt(1, 2, "()"), "a(b)", "open 1"}, {"", wrapAt(0, 0, "[)"), "[)", "open 0"}, {"ab", wrapAt(0, 2, "[]"), "[ab]", "open 0"}, {"ab", wrapAt(2, 2, "()"), "ab()", "open 2"}, {")a(", wrapAt(1, 1, "()"), ")()a(", "open 1"}, {"(a)b]", wrapAt(0, 4, "(]"), "((a)b]]", "open 0"},
		{"ab", putAt(1, "[b]"), "a[b]b", "cut 1"}, {"", putAt(0, ""), "", "put 0 -"}, {"(]", putAt(1, ""), "(]", "put 1 -"}, {"(]", putAt(2, "()"), "(]()", "cut 2"}, {"ab", putAt(0, "(a)"), "(a)ab", "cut 0"},
		{"a[b]", cutAt(1), "a", "put 1 [b]"}, {"(a(b)]", cutAt(0), "", "put 0 (a(b)]"}, {"(a(b)]", cutAt(2), "(a]", "put 2 (b)"}, {")()", cutAt(1), ")", "put 1 ()"}, {"([)", cutAt(1), "(", "put 1 [)"},
		{"a(b)", openAt(1), "ab", "wrap 1 2 ()"}, {"[)", openAt(0), "", "wrap 0 0 [)"}, {"([ab]]", openAt(0), "[ab]", "wrap 0 4 (]"}, {"([ab])", openAt(1), "(ab)", "wrap 1 3 []"}, {"()(]", openAt(2), "()", "wrap 2 2 (]"},
		{"(a)", nameAt(0, "[)"), "[a)", "name 0 ()"}, {"(a[])", nameAt(2, "(]"), "(a(])", "name 2 []"}, {"(]", nameAt(0, "(]"), "(]", "name 0 (]"}, {"([)", nameAt(1, "(]"), "((]", "name 1 [)"},
	} {
		edited, one := impl.EditTree(known.w, known.e)
		back, two := impl.UndoTreeEdit(known.w, known.e)
		expect(t, told(known), told(known.want, 0, known.back, 0), edited, one, impl.TreeEditText(back), two)
		checkEdit(t, known.w, known.e)
	}
}

func TestEditsOfShortWords(t *testing.T) {
	codes := map[int64]int{}
	for _, w := range append(textsUpTo(4), "([a])", "(a)[b]", "(()[])", "[[))]", ")()(", "a(b(a)") {
		for _, e := range shortEdits() {
			codes[checkEdit(t, w, e)]++
		}
	}
	if codes[impl.OK] < 50000 || codes[impl.ErrRange] < 50000 || codes[impl.ErrState] < 10000 || codes[impl.ErrLimit] > 0 {
		t.Errorf("the codes are %v", codes)
	}
}

func TestEditsOfLongWords(t *testing.T) {
	codes := map[int64]int{}
	long := slices.Concat(randomWords(2), matchedOnly(randomWords(5)), []string{
		strings.Repeat("(", 30) + strings.Repeat("]", 30), strings.Repeat("()", 30), "[" + strings.Repeat("ab", 29) + ")", strings.Repeat(")", 30) + strings.Repeat("[", 30),
		strings.Repeat("(a)", 19), strings.Repeat("([", 14) + strings.Repeat(")]", 14), strings.Repeat("ab[)", 14) + "ab", strings.Repeat("(", 29) + "a" + strings.Repeat(")", 29),
	})
	list := sampleEdits()
	for i, w := range long {
		for k := i % 7; k < len(list); k += 7 {
			codes[checkEdit(t, w, list[k])]++
		}
		for at := range int64(len(w)) {
			codes[checkEdit(t, w, cutAt(at))]++
			codes[checkEdit(t, w, openAt(at))]++
			codes[checkEdit(t, w, nameAt(at, pairTexts[at%4]))]++
			codes[checkEdit(t, w, putAt(at, "(a)"))]++
			codes[checkEdit(t, w, wrapAt(at, int64(len(w)), "[]"))]++
			codes[checkEdit(t, w, wrapAt(at, at, "[)"))]++
			codes[checkEdit(t, w, wrapAt(0, at, "(]"))]++
		}
	}
	for code := range int64(impl.ErrState + 1) {
		if code != impl.ErrInvalid && codes[code] < 1000 {
			t.Errorf("the codes are %v", codes)
		}
	}
}

// TestEditsLeaveWords leaves words of exactly MaxWord symbols, and of one more.
func TestEditsLeaveWords(t *testing.T) {
	a := func(length int) string { return strings.Repeat("a", length) }
	for _, known := range []struct {
		w    string
		e    impl.TreeEdit
		code int64
	}{
		{a(58), wrapAt(0, 58, "()"), impl.OK}, {a(59), wrapAt(0, 59, "()"), impl.ErrLimit}, {a(60), wrapAt(0, 60, "()"), impl.ErrLimit}, {a(58), wrapAt(58, 58, "()"), impl.OK}, {a(59), wrapAt(59, 59, "()"), impl.ErrLimit}, {a(60), wrapAt(60, 60, "[]"), impl.ErrLimit},
		{a(59), wrapAt(2, 1, "()"), impl.ErrRange}, {a(59) + "(", wrapAt(59, 60, "()"), impl.ErrState}, {a(59), wrapAt(0, 60, "()"), impl.ErrRange}, {"(" + a(58), wrapAt(0, 1, "()"), impl.ErrState},
		{a(58), putAt(58, "()"), impl.OK}, {a(59), putAt(59, "()"), impl.ErrLimit}, {a(59), putAt(60, "()"), impl.ErrRange}, {a(60), putAt(60, ""), impl.OK}, {a(60), putAt(0, ""), impl.OK}, {a(60), putAt(60, "()"), impl.ErrLimit}, {a(57), putAt(0, "(a)"), impl.OK}, {a(58), putAt(0, "(a)"), impl.ErrLimit},
		{"", putAt(0, "("+a(58)+")"), impl.OK}, {"a", putAt(0, "("+a(58)+")"), impl.ErrLimit}, {"a", putAt(1, "("+a(57)+")"), impl.OK}, {a(59), putAt(0, "b"), impl.ErrState}, {a(60), putAt(0, "b"), impl.ErrLimit}, {a(60), putAt(61-1, "b"), impl.ErrLimit},
		{"(" + a(58) + ")", cutAt(0), impl.OK}, {"(" + a(58) + "]", openAt(0), impl.OK}, {"[" + a(58) + ")", nameAt(0, "(]"), impl.OK}, {a(58) + "()", cutAt(58), impl.OK}, {a(58) + "()", openAt(58), impl.OK}, {a(58) + "()", nameAt(58, "[]"), impl.OK},
		{a(58) + "()", cutAt(59), impl.ErrState}, {a(58) + "()", openAt(59), impl.ErrState}, {a(58) + "()", nameAt(59, "[]"), impl.ErrState}, {a(58) + "()", cutAt(60), impl.ErrRange}, {a(58) + "()", openAt(60), impl.ErrRange}, {a(58) + "()", nameAt(60, "[]"), impl.ErrRange},
		{a(59) + "(", cutAt(59), impl.ErrState}, {a(59) + "(", openAt(59), impl.ErrState}, {a(59) + "[", nameAt(59, "[]"), impl.ErrState}, {"", cutAt(0), impl.ErrRange}, {"", openAt(0), impl.ErrRange}, {"", nameAt(0, "()"), impl.ErrRange}, {"", wrapAt(0, 1, "()"), impl.ErrRange}, {"", wrapAt(1, 1, "()"), impl.ErrRange}, {"", putAt(1, ""), impl.ErrRange},
	} {
		expect(t, told(known), told(known.code), checkEdit(t, known.w, known.e))
	}
}

func TestPutsThatCannotBeUndone(t *testing.T) {
	for _, text := range putTexts() {
		edited, one := impl.EditTree("", putAt(0, text))
		back, two := impl.UndoTreeEdit("", putAt(0, text))
		expect(t, text, told(text, 0), edited, one)
		if text != "" && partnersByBalance(text)[0] != int64(len(text)-1) {
			expectError(t, text, impl.ErrState, two, back)
			continue
		}
		expect(t, text, "0 true", two, back == cutAt(0) || text == "" && back == putAt(0, ""))
	}
	// It cannot be made: this error comes first.
	back, code := impl.UndoTreeEdit("", putAt(1, "ab"))
	expectError(t, "a put at no place", impl.ErrRange, code, back)
	back, code = impl.UndoTreeEdit(strings.Repeat("a", 59), putAt(0, "ab"))
	expectError(t, "a put that is too long", impl.ErrLimit, code, back)
}

func TestBrokenEditsAreNotMade(t *testing.T) {
	expectInvalid := func(w string, e impl.TreeEdit) {
		t.Helper()
		edited, one := impl.EditTree(w, e)
		expectError(t, "EditTree", impl.ErrInvalid, one, edited)
		back, two := impl.UndoTreeEdit(w, e)
		expectError(t, "UndoTreeEdit", impl.ErrInvalid, two, back)
		for _, list := range [][]impl.TreeEdit{{e}, {putAt(0, ""), e}, {e, cutAt(50)}, append(slices.Repeat([]impl.TreeEdit{openAt(3)}, impl.MaxWord), e)} {
			last, made, three := impl.EditTrees(w, list)
			expectError(t, "EditTrees", impl.ErrInvalid, three, last, made)
		}
	}
	for _, e := range brokenEdits() {
		for _, w := range []string{"", "(a)", "((b)[a])", "c", strings.Repeat("a", impl.MaxWord+1)} {
			expectInvalid(w, e)
		}
	}
	for _, w := range noWords() {
		for _, e := range []impl.TreeEdit{putAt(0, ""), putAt(60, "ab"), cutAt(0), openAt(60), wrapAt(0, 0, "()"), wrapAt(9, 3, "[]"), nameAt(0, "[)")} {
			expectInvalid(w, e)
		}
		last, made, code := impl.EditTrees(w, nil)
		expectError(t, "EditTrees of nothing", impl.ErrInvalid, code, last, made)
	}
}

// editedOneByOne makes the edits that can be made.
func editedOneByOne(w string, list []impl.TreeEdit) (string, int64) {
	made := int64(0)
	for _, e := range list {
		if c, code := changeOf(w, e); code == impl.OK {
			w = c.word
			made++
		}
	}
	return w, made
}

func TestEditTrees(t *testing.T) {
	l := lottery(313)
	short, long := shortEdits(), sampleEdits()
	words := slices.Concat(textsUpTo(3), randomWords(1))
	some, left := 0, 0
	for i, w := range words {
		var list []impl.TreeEdit
		for range l.below(impl.MaxWord + 1) {
			choice := short
			if l.below(5) == 0 {
				choice = long
			}
			list = append(list, choice[l.below(int64(len(choice)))])
		}
		want, made := editedOneByOne(w, list)
		last, count, code := impl.EditTrees(w, list)
		expect(t, told(i, w), told(want, made, 0), last, count, code)
		some, left = some+int(made), left+len(list)-int(made)
	}
	if some < 2000 || left < 2000 {
		t.Errorf("%d edits are made, and %d are left out", some, left)
	}
}

func TestEditTreesEnds(t *testing.T) {
	sixty := slices.Repeat([]impl.TreeEdit{putAt(0, "a")}, impl.MaxWord)
	for _, known := range []struct {
		w    string
		list []impl.TreeEdit
		want string
	}{
		{"", nil, " 0 0"}, {"(a]", nil, "(a] 0 0"}, {"(", []impl.TreeEdit{cutAt(0)}, "( 0 0"}, {"ab", []impl.TreeEdit{wrapAt(1, 2, "()"), cutAt(0), openAt(1)}, "ab 2 0"}, {"ab", []impl.TreeEdit{cutAt(1), wrapAt(1, 2, "()"), cutAt(1)}, "a 2 0"},
		{"", sixty, strings.Repeat("a", 60) + " 60 0"}, {"b", sixty, strings.Repeat("a", 59) + "b 59 0"}, {"", append(slices.Clone(sixty[:59]), wrapAt(0, 1, "()")), strings.Repeat("a", 59) + " 59 0"}, {"", append(slices.Clone(sixty[:58]), wrapAt(0, 58, "[]"), openAt(0)), strings.Repeat("a", 58) + " 60 0"},
	} {
		last, made, code := impl.EditTrees(known.w, known.list)
		expect(t, known.w, known.want, last, made, code)
	}
	for _, more := range []int{1, 2, 1000, 100000} {
		list := slices.Concat(sixty, slices.Repeat([]impl.TreeEdit{cutAt(5)}, more))
		last, made, code := impl.EditTrees("", list)
		expectError(t, "too many edits", impl.ErrRange, code, last, made)
		list[len(list)-1].To = 1
		last, made, code = impl.EditTrees("", list)
		expectError(t, "too many edits, one broken", impl.ErrInvalid, code, last, made)
	}
}
