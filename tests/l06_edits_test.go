package tests

import (
	"math"
	"regexp"
	"slices"
	"strconv"
	"strings"
	"testing"

	"loop.example/g01145/impl"
)

// editNames has the word of each kind of edit.
var editNames = map[int64]string{impl.EdPut: "put", impl.EdCut: "cut", impl.EdOpen: "open", impl.EdWrap: "wrap", impl.EdName: "name"}

func putAt(at int64, text string) impl.TreeEdit {
	return impl.TreeEdit{Kind: impl.EdPut, At: at, Text: text}
}

func cutAt(at int64) impl.TreeEdit { return impl.TreeEdit{Kind: impl.EdCut, At: at} }

func openAt(at int64) impl.TreeEdit { return impl.TreeEdit{Kind: impl.EdOpen, At: at} }

func wrapAt(at, to int64, text string) impl.TreeEdit {
	return impl.TreeEdit{Kind: impl.EdWrap, At: at, To: to, Text: text}
}

func nameAt(at int64, text string) impl.TreeEdit {
	return impl.TreeEdit{Kind: impl.EdName, At: at, Text: text}
}

// textOfEdit returns the text of a valid edit.
func textOfEdit(e impl.TreeEdit) string {
	words := []string{editNames[e.Kind], strconv.Itoa(int(e.At))}
	switch {
	case e.Kind == impl.EdWrap:
		words = append(words, strconv.Itoa(int(e.To)), e.Text)
	case e.Text != "":
		words = append(words, e.Text)
	case e.Kind == impl.EdPut:
		words = append(words, "-")
	}
	return strings.Join(words, " ")
}

// putTexts returns matched words of all sorts and lengths.
func putTexts() []string {
	texts := matchedOnly(slices.Concat(textsUpTo(3), randomWords(3)))
	return append(texts, "(a[b])", "[()()]", "(a)b", "a(b)", "(a)(b)", "[][]", "((((()))))", "ab", strings.Repeat("ab", 30), strings.Repeat("(", 30)+strings.Repeat("]", 30), strings.Repeat("()", 30), "("+strings.Repeat("[)", 29)+"]")
}

// sampleEdits returns valid edits of all kinds, from the least to the greatest
// places.
func sampleEdits() []impl.TreeEdit {
	var list []impl.TreeEdit
	for _, at := range []int64{0, 1, 2, 3, 4, 5, 9, 10, 29, 30, 58, 59, impl.MaxWord} {
		for _, text := range putTexts() {
			list = append(list, putAt(at, text))
		}
		list = append(list, cutAt(at), openAt(at))
		for _, pair := range pairTexts {
			list = append(list, nameAt(at, pair))
			for _, to := range []int64{0, 1, 2, 3, 4, 6, 10, 59, impl.MaxWord} {
				list = append(list, wrapAt(at, to, pair))
			}
		}
	}
	return list
}

// brokenEdits returns edits that are not valid, most for one reason alone.
func brokenEdits() []impl.TreeEdit {
	list := []impl.TreeEdit{{}, {Text: "()"}, {At: 1, To: 1, Text: "()"}}
	for _, kind := range []int64{math.MinInt64, -1, 0, 6, 7, 100, 1 << 32, 1<<32 + 1, math.MaxInt64} {
		list = append(list, impl.TreeEdit{Kind: kind}, impl.TreeEdit{Kind: kind, Text: "()"}, impl.TreeEdit{Kind: kind, To: 1, Text: "()"})
	}
	for _, far := range []int64{math.MinInt64, -1, impl.MaxWord + 1, impl.MaxWord + 2, 1 << 32, math.MaxInt64} {
		list = append(list, putAt(far, ""), putAt(far, "()"), cutAt(far), openAt(far), wrapAt(far, 0, "()"), wrapAt(0, far, "()"), wrapAt(far, far, "[]"), nameAt(far, "()"))
	}
	for _, to := range []int64{-1, 1, 5, impl.MaxWord, impl.MaxWord + 1, math.MaxInt64} {
		for _, e := range []impl.TreeEdit{putAt(1, "()"), putAt(1, ""), cutAt(1), openAt(1), nameAt(1, "()")} {
			e.To = to
			list = append(list, e)
		}
	}
	for _, text := range []string{"(", ")", "]", "a(", ")(", "())", "[[)", "b]", strings.Repeat("(", 60), strings.Repeat("ab", 30) + "a", strings.Repeat("()", 31), "-", " ", "c", "()c", "() "} {
		list = append(list, putAt(0, text))
	}
	for _, text := range []string{"()", "a", "-", " ", "c", strings.Repeat("a", 100)} {
		list = append(list, impl.TreeEdit{Kind: impl.EdCut, Text: text}, impl.TreeEdit{Kind: impl.EdOpen, At: 3, Text: text})
	}
	for _, text := range append(wordsOf(2), "", "(", ")", "a", "()a", "(a)", "()()", "( )", "-", "<>", "{}", "()\n", " ()", "((", "cc") {
		if !slices.Contains(pairTexts, text) {
			list = append(list, wrapAt(0, 0, text), wrapAt(1, 2, text), nameAt(0, text), nameAt(60, text))
		}
	}
	for _, text := range noWords() {
		list = append(list, putAt(0, text), wrapAt(0, 1, text), nameAt(0, text), impl.TreeEdit{Kind: impl.EdCut, Text: text})
	}
	return list
}

func expectEdit(t *testing.T, name string, want, e impl.TreeEdit, code int64) {
	t.Helper()
	if e != want || code != impl.OK {
		t.Errorf("%s: got the code %d and %v, want %v", name, code, e, want)
	}
}

func TestEditsAreValid(t *testing.T) {
	for _, e := range sampleEdits() {
		expect(t, told(e), "true", impl.ValidTreeEdit(e))
	}
	for _, e := range brokenEdits() {
		expect(t, told("broken", e)[:min(40, len(told("broken", e)))], "false", impl.ValidTreeEdit(e))
	}
}

// TestNumbersOfEdits changes the numbers of one edit of each kind.
func TestNumbersOfEdits(t *testing.T) {
	isPlace := func(n int64) bool { return n >= 0 && n <= impl.MaxWord }
	for _, n := range farNumbers() {
		for _, e := range []impl.TreeEdit{putAt(0, "()"), cutAt(0), openAt(0), wrapAt(0, 0, "()"), nameAt(0, "()")} {
			at, to, kind := e, e, e
			at.At, to.To, kind.Kind = n, n, n
			expect(t, told("At of", e, n), told(isPlace(n)), impl.ValidTreeEdit(at))
			expect(t, told("To of", e, n), told(n == 0 || e.Kind == impl.EdWrap && isPlace(n)), impl.ValidTreeEdit(to))
			hasText := e.Text != ""
			isText := hasText && (n == impl.EdPut || n == impl.EdWrap || n == impl.EdName) || !hasText && (n == impl.EdPut || n == impl.EdCut || n == impl.EdOpen)
			expect(t, told("Kind of", e, n), told(isText), impl.ValidTreeEdit(kind))
		}
	}
}

// TestTextsInEdits gives each text of at most four symbols to each kind.
func TestTextsInEdits(t *testing.T) {
	for _, text := range outTexts {
		isPair, isMatched := slices.Contains(pairTexts, text), coreByCancelling(text) == ""
		for kind, want := range map[int64]bool{impl.EdPut: isMatched, impl.EdCut: text == "", impl.EdOpen: text == "", impl.EdWrap: isPair, impl.EdName: isPair} {
			e := impl.TreeEdit{Kind: kind, At: 2, Text: text}
			if impl.ValidTreeEdit(e) != want {
				t.Errorf("%v: want %v", e, want)
			}
		}
	}
}

func TestTextsOfEdits(t *testing.T) {
	for text, want := range map[string]impl.TreeEdit{
		"put 0 -": putAt(0, ""), "put 60 -": putAt(60, ""), "put 3 a[b]": putAt(3, "a[b]"), "put 10 ()": putAt(10, "()"), "cut 0": cutAt(0), "cut 60": cutAt(60), "open 1": openAt(1), "open 12": openAt(12),
		"wrap 1 2 ()": wrapAt(1, 2, "()"), "wrap 0 0 [)": wrapAt(0, 0, "[)"), "wrap 60 60 (]": wrapAt(60, 60, "(]"), "wrap 9 3 []": wrapAt(9, 3, "[]"), "name 0 (]": nameAt(0, "(]"), "name 60 []": nameAt(60, "[]"),
	} {
		expect(t, "TreeEditText", text, impl.TreeEditText(want))
		e, code := impl.ReadTreeEdit(text)
		expectEdit(t, text, want, e, code)
	}
	for _, e := range sampleEdits() {
		text := impl.TreeEditText(e)
		expect(t, "TreeEditText", textOfEdit(e), text)
		again, code := impl.ReadTreeEdit(text)
		expectEdit(t, text, e, again, code)
	}
	for _, e := range brokenEdits() {
		expect(t, "the text of a broken edit", "", impl.TreeEditText(e))
	}
}

const placeShape = `(0|[1-9]|[1-5][0-9]|60)`

var editShape = regexp.MustCompile(`\A(put ` + placeShape + ` (-|[([)\]ab]{1,60})|(cut|open) ` + placeShape + `|(wrap ` + placeShape + `|name) ` + placeShape + ` [([][)\]])\z`)

func isEditText(text string) bool {
	last := text[strings.LastIndexByte(text, ' ')+1:]
	return editShape.MatchString(text) && (!strings.HasPrefix(text, "put") || last == "-" || coreByCancelling(last) == "")
}

// checkReadingOfEdit checks that a text is read just if it is one of an edit.
func checkReadingOfEdit(t *testing.T, text string) {
	t.Helper()
	e, code := impl.ReadTreeEdit(text)
	if !isEditText(text) {
		expectError(t, strconv.Quote(text[:min(len(text), 100)]), impl.ErrSyntax, code, e)
		return
	}
	if code != impl.OK || !impl.ValidTreeEdit(e) || impl.TreeEditText(e) != text {
		t.Errorf("%q: got the code %d and %v", text, code, e)
	}
}

func TestTextsOfNoEdit(t *testing.T) {
	texts := []string{
		"", " ", "\n", "-", "put", "put ", "put 0", "put 0 ", "put -", "put  -", "put 0  -", "put 0 - ", "put 0 --", "put 0 -a", "put 0 ()-", "put 0 0 ()", "put 0 0 -", "put 0 a b", "put 0 (", "put 0 )(", "put 0 c", "put 61 -", "put -1 -", "put 00 -", "put 01 a", "put +1 a", "put 1. a", "put x a", "put ۱ a",
		"cut", "cut ", "cut 0 ", "cut 0 -", "cut 0 0", "cut 0 ()", "cut -", "cut 61", "cut -1", "cut 1 2", "cut 00", "cut 1e1", "open", "open -", "open 0 -", "open 61", "open 0 0", "open 0 ()", "open ()",
		"wrap", "wrap 0", "wrap 0 ()", "wrap 0 0", "wrap 0 0 ", "wrap 0 0 -", "wrap 0 0 )(", "wrap 0 0 (", "wrap 0 0 ()()", "wrap 0 0 (a)", "wrap 0 61 ()", "wrap 61 0 ()", "wrap 0 -1 ()", "wrap 0 0 0 ()", "wrap 0 0 () ", "wrap () 0 0", "wrap 1 2 () 3",
		"name", "name 0", "name 0 ", "name 0 -", "name 0 a", "name 0 ((", "name 0 0 ()", "name 61 ()", "name -1 ()", "name 0 ()()", "name () 0", "name 0 [)]",
		"Put 0 -", "PUT 0 -", "puts 0 -", "pu 0 -", "1 0 -", " put 0 -", "\nput 0 -", "put 0 -\n", "put\t0 -", "put 0\t-", "put\u00a00 -", "delete 0", "0 cut", "cut0", "wrap 0 0()", "name 0()", "put 18446744073709551616 -", "cut 18446744073709551617", "cut 9223372036854775808", "cut -0", "put 0 " + strings.Repeat("a", 61), "put 0 " + strings.Repeat("()", 31), "put 0 -\x00", "cut 0\x00",
	}
	for _, text := range slices.Concat(texts, noWords()) {
		e, code := impl.ReadTreeEdit(text)
		expectError(t, strconv.Quote(text[:min(len(text), 30)]), impl.ErrSyntax, code, e)
		checkReadingOfEdit(t, text)
	}
	for _, text := range noWords() {
		for _, front := range []string{"put 0 ", "wrap 0 0 ", "name 0 ", "cut ", "open 0 ", "put "} {
			checkReadingOfEdit(t, front+text)
		}
	}
}

func TestTextsOfEditsWithOneChange(t *testing.T) {
	for _, text := range []string{"put 0 -", "put 12 (a[b])", "put 60 a", "cut 0", "cut 59", "open 3", "wrap 1 2 ()", "wrap 60 10 [)", "name 6 (]", "name 45 []"} {
		checkReadingOfEdit(t, text+text)
		for _, changed := range textsWithOneChange(text, "01256789+- \n\tptc.([)]abc\x00") {
			checkReadingOfEdit(t, changed)
		}
		for _, word := range []string{"put", "cut", "open", "wrap", "name", "-", "0", "60", "61", "()", "a", ""} {
			words := strings.Split(text, " ")
			for i := range words {
				checkReadingOfEdit(t, strings.Join(slices.Replace(slices.Clone(words), i, i+1, word), " "))
				checkReadingOfEdit(t, strings.Join(slices.Insert(slices.Clone(words), i, word), " "))
				checkReadingOfEdit(t, strings.Join(slices.Delete(slices.Clone(words), i, i+1), " "))
			}
		}
	}
}

func TestPlacesInTextsOfEdits(t *testing.T) {
	read := 0
	for n := -5; n <= 130; n++ {
		for _, text := range []string{"put N a", "put N -", "cut N", "open N", "wrap N 0 ()", "wrap 0 N ()", "name N ()"} {
			checkReadingOfEdit(t, strings.Replace(text, "N", strconv.Itoa(n), 1))
			if _, code := impl.ReadTreeEdit(strings.Replace(text, "N", strconv.Itoa(n), 1)); code == impl.OK {
				read++
			}
		}
	}
	expect(t, "texts that are read", told(7*(impl.MaxWord+1)), read)
}
