package tests

import (
	"regexp"
	"slices"
	"strconv"
	"strings"
	"testing"

	"loop.example/g01145/impl"
)

// sampleDeeds returns valid deeds of all kinds, from the least to the greatest
// numbers.
func sampleDeeds() []impl.Deed {
	list := []impl.Deed{deed(impl.DdSave, 0), deed(impl.DdCrash, 0)}
	for _, a := range []int64{0, 1, 2, 9, 10, 11, 12, 19, 20, 99, 100, 101, 998, 999} {
		list = append(list, deed(impl.DdDeliver, a), deed(impl.DdCopy, a), deed(impl.DdDrop, a))
		for _, b := range []int64{0, 1, 5, 10, 100, 998, 999} {
			list = append(list, send(a, b))
		}
	}
	return list
}

// textOfDeed returns the text of a valid deed.
func textOfDeed(d impl.Deed) string {
	form := deedNames[d.Kind]
	words := []string{form.word, strconv.Itoa(int(d.A)), strconv.Itoa(int(d.B))}
	return strings.Join(words[:1+form.numbers], " ")
}

func TestDeedsAreValid(t *testing.T) {
	for _, d := range sampleDeeds() {
		expect(t, told(d), "true", impl.ValidDeed(d))
	}
	for _, d := range brokenDeeds() {
		expect(t, told("broken", d), "false", impl.ValidDeed(d))
	}
}

// TestNumbersOfDeeds changes the numbers of one deed of each kind.
func TestNumbersOfDeeds(t *testing.T) {
	for _, n := range append(farNumbers(), 998, 999, 1000, 1001, 1<<32+1, 1<<16+1, 256) {
		for kind, form := range deedNames {
			isNumber := n >= 0 && n <= 999
			a, b := impl.Deed{Kind: kind, A: n}, impl.Deed{Kind: kind, B: n}
			expect(t, told("A of", kind, n), told(n == 0 || form.numbers > 0 && isNumber), impl.ValidDeed(a))
			expect(t, told("B of", kind, n), told(n == 0 || form.numbers > 1 && isNumber), impl.ValidDeed(b))
			both := impl.Deed{Kind: kind, A: n, B: n}
			expect(t, told("both of", kind, n), told(n == 0 || form.numbers > 1 && isNumber), impl.ValidDeed(both))
		}
		expect(t, told("Kind", n), told(n >= 1 && n <= 6), impl.ValidDeed(impl.Deed{Kind: n}))
		expect(t, told("Kind with A", n), told(n >= 1 && n <= 4), impl.ValidDeed(impl.Deed{Kind: n, A: 3}))
		expect(t, told("Kind with B", n), told(n == 1), impl.ValidDeed(impl.Deed{Kind: n, B: 3}))
	}
}

func TestTextsOfDeeds(t *testing.T) {
	for text, want := range map[string]impl.Deed{
		"send 0 0": send(0, 0), "send 2 1": send(2, 1), "send 0 999": send(0, 999), "send 999 0": send(999, 0), "send 10 100": send(10, 100), "deliver 0": deed(impl.DdDeliver, 0), "deliver 999": deed(impl.DdDeliver, 999),
		"copy 0": deed(impl.DdCopy, 0), "copy 12": deed(impl.DdCopy, 12), "drop 0": deed(impl.DdDrop, 0), "drop 7": deed(impl.DdDrop, 7), "save": deed(impl.DdSave, 0), "crash": deed(impl.DdCrash, 0),
	} {
		expect(t, "DeedText", text, impl.DeedText(want))
		d, code := impl.ReadDeed(text)
		expect(t, text, told(want, 0), d, code)
	}
	for _, d := range sampleDeeds() {
		text := impl.DeedText(d)
		expect(t, "DeedText", textOfDeed(d), text)
		again, code := impl.ReadDeed(text)
		expect(t, text, told(d, 0), again, code)
	}
	for _, d := range brokenDeeds() {
		expect(t, told("the text of", d), "", impl.DeedText(d))
	}
}

var deedShape = regexp.MustCompile(`\A(send (0|[1-9][0-9]{0,2}) (0|[1-9][0-9]{0,2})|(deliver|copy|drop) (0|[1-9][0-9]{0,2})|save|crash)\z`)

// checkReadingOfDeed checks that a text is read just if it is one of a deed.
func checkReadingOfDeed(t *testing.T, text string) {
	t.Helper()
	d, code := impl.ReadDeed(text)
	if !deedShape.MatchString(text) {
		expectError(t, strconv.Quote(text[:min(len(text), 100)]), impl.ErrSyntax, code, d)
		return
	}
	if code != impl.OK || !impl.ValidDeed(d) || impl.DeedText(d) != text || textOfDeed(d) != text {
		t.Errorf("%q: got the code %d and %v", text, code, d)
	}
}

func TestTextsOfNoDeed(t *testing.T) {
	texts := []string{
		"", " ", "\n", "0", "1", "-1", "1 2", "verdict", "desk", "missing", "what", "none", "ok",
		"send", "send ", "send 0", "send 0 ", "send  0", "send 0  0", "send  0 0", "send 0 0 ", " send 0 0", "send 0 0 0", "send 0 1 2 3", "send 0 0\n", "\nsend 0 0", "send\t0\t0", "send 0,0", "send 0\u00a00", "send 00 0", "send 0 00", "send 01 1", "send 1 01", "send +1 1", "send 1 +1", "send -0 0", "send 0 -0", "send -1 0", "send 0 -1", "send 1000 1000", "send 0 1000", "send 1000 0", "send a b", "send 0 x", "send x 0", "send 1. 2", "send 1e1 20", "send 0x1 2", "send 1_0 20", "send ۱ ۲", "send 0 18446744073709551616", "send 18446744073709551617 1", "send 9223372036854775808 0",
		"deliver", "deliver ", "deliver  0", "deliver 0 ", "deliver 0 0", "deliver 00", "deliver 01", "deliver +0", "deliver -0", "deliver -1", "deliver 1000", "deliver x", "deliver0", "deliver 4294967296", "copy", "copy ", "copy 0 0", "copy 00", "copy 1000", "copy -1", "copy +1", "drop", "drop ", "drop 0 0", "drop 00", "drop 1000", "drop -1", "drop 0.0",
		"save ", " save", "save 0", "save 1", "save 0 0", "save\n", "saved", "sav", "crash ", " crash", "crash 0", "crash 1", "crash -", "crash\x00", "crashed", "cras", "Save", "SAVE", "Send 0 0", "SEND 0 0", "Deliver 0", "sends 0 0", "sen 0 0", "delivers 0", "save crash", "save\ncrash", "send0 0", "0 send 0", "0 0 send", "1 0 0", "4 0", "save0", "5", "6",
	}
	for _, text := range slices.Concat(texts, noWords()) {
		d, code := impl.ReadDeed(text)
		expectError(t, strconv.Quote(text[:min(len(text), 30)]), impl.ErrSyntax, code, d)
		checkReadingOfDeed(t, text)
	}
	for _, text := range noWords() {
		for _, front := range []string{"send ", "send 0 ", "send 0 0 ", "deliver ", "copy 0 ", "drop ", "save ", "crash "} {
			checkReadingOfDeed(t, front+text)
		}
	}
}

func TestTextsOfDeedsWithOneChange(t *testing.T) {
	for _, text := range []string{"send 0 0", "send 12 345", "send 999 1", "deliver 0", "deliver 120", "copy 3", "drop 10", "save", "crash"} {
		checkReadingOfDeed(t, text+text)
		for _, changed := range textsWithOneChange(text, "0129+- \n\tsdcvex.\x00") {
			checkReadingOfDeed(t, changed)
		}
		for _, word := range []string{"send", "deliver", "copy", "drop", "save", "crash", "-", "0", "5", "999", "1000", ""} {
			words := strings.Split(text, " ")
			for i := range len(words) + 1 {
				checkReadingOfDeed(t, strings.Join(slices.Insert(slices.Clone(words), i, word), " "))
				if i < len(words) {
					checkReadingOfDeed(t, strings.Join(slices.Replace(slices.Clone(words), i, i+1, word), " "))
					checkReadingOfDeed(t, strings.Join(slices.Delete(slices.Clone(words), i, i+1), " "))
				}
			}
		}
	}
}

func TestNumbersInTextsOfDeeds(t *testing.T) {
	read := 0
	for n := -1100; n <= 2100; n++ {
		for _, text := range []string{"send N 0", "send 0 N", "deliver N", "copy N", "drop N", "save N", "crash N"} {
			text = strings.Replace(text, "N", strconv.Itoa(n), 1)
			checkReadingOfDeed(t, text)
			if _, code := impl.ReadDeed(text); code == impl.OK {
				read++
			}
		}
	}
	expect(t, "texts that are read", "5000", read)
}
