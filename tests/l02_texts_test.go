package tests

import (
	"math"
	"regexp"
	"strconv"
	"strings"
	"testing"

	"loop.example/g01145/impl"
)

const smallestText = "checker 1 1 0\nyes 0 0 0 0 0 0 0 0 0 0\n"

func TestCheckerLimits(t *testing.T) {
	expect(t, "limits", "40 80 40000", impl.MaxStates, impl.MaxStack, impl.MaxText)
}

func TestValidCheckers(t *testing.T) {
	for _, c := range sampleCheckers() {
		if !impl.ValidChecker(c) {
			t.Errorf("%d states and %d marks: the checker is valid", len(c.Accept), c.Stack)
		}
	}
	l := lottery(1)
	c := l.checker(3, 2)
	for i, number := range numbersIn(&c) {
		for value := range number.count {
			d := copied(c)
			*numbersIn(&d)[i].at = value
			if !impl.ValidChecker(d) {
				t.Errorf("%v is valid", d)
			}
		}
	}
}

func TestBrokenCheckersAreNotValid(t *testing.T) {
	for _, c := range brokenCheckers() {
		if impl.ValidChecker(c) {
			t.Errorf("%v is not valid", c)
		}
		if text := impl.CheckerText(c); text != "" {
			t.Errorf("%v has the text %q", c, text)
		}
	}
}

func TestSameChecker(t *testing.T) {
	all := append(sampleCheckers(), brokenCheckers()...)
	for i, c := range all {
		if !impl.SameChecker(c, copied(c)) || !impl.SameChecker(copied(c), c) {
			t.Errorf("the checker %d is the same as its copy", i)
		}
	}
	l := lottery(1)
	c := l.checker(3, 2)
	differs := func(change func(d *impl.Checker)) {
		d := copied(c)
		change(&d)
		if impl.SameChecker(c, d) || impl.SameChecker(d, c) {
			t.Errorf("%v and %v are not the same", c, d)
		}
	}
	for i := range numbersIn(&c) {
		differs(func(d *impl.Checker) { *numbersIn(d)[i].at++ })
		differs(func(d *impl.Checker) { *numbersIn(d)[i].at = math.MinInt64 })
	}
	for state := range c.Accept {
		differs(func(d *impl.Checker) { d.Accept[state] = !d.Accept[state] })
	}
	for _, change := range lengthChanges() {
		differs(func(d *impl.Checker) { change(d, 1) })
		differs(func(d *impl.Checker) { change(d, -1) })
	}
	differs(func(d *impl.Checker) { d.Stack++ })
}

func TestSameCheckerOfNoLists(t *testing.T) {
	empty := impl.Checker{Accept: []bool{}, Call: [][]impl.Push{}, Return: [][][]int64{}, Inner: [][]int64{}}
	inside := impl.Checker{Call: [][]impl.Push{nil}, Return: [][][]int64{nil, {nil}}, Inner: [][]int64{nil}}
	spelt := impl.Checker{Call: [][]impl.Push{{}}, Return: [][][]int64{{}, {{}}}, Inner: [][]int64{{}}}
	expect(t, "no lists", "true true true true false", impl.SameChecker(empty, impl.Checker{}), impl.SameChecker(impl.Checker{}, empty),
		impl.SameChecker(inside, spelt), impl.SameChecker(spelt, inside), impl.SameChecker(inside, empty))
}

func TestCheckerText(t *testing.T) {
	c := impl.Checker{
		Stack: 3, Start: 1, Accept: []bool{false, true},
		Call:   [][]impl.Push{{{To: 1, Put: 2}, {To: 0, Put: 1}}, {{To: 0, Put: 0}, {To: 1, Put: 2}}},
		Return: [][][]int64{{{0, 1, 0, 1}, {1, 1, 0, 0}}, {{1, 0, 0, 0}, {0, 0, 0, 1}}},
		Inner:  [][]int64{{1, 0}, {0, 1}},
	}
	want := "checker 2 3 1\nno 1 2 0 1 0 1 0 1 1 1 0 0 1 0\nyes 0 0 1 2 1 0 0 0 0 0 0 1 0 1\n"
	expectChecker(t, "CheckerText", want, c, impl.OK)
	read, code := impl.ReadChecker(want)
	expect(t, "ReadChecker", "true 0", impl.SameChecker(read, c), code)
	smallest, code := impl.ReadChecker(smallestText)
	one := evenChecker(1, 1, 0, 0)
	one.Accept[0] = true
	expect(t, "the smallest", "true 0", impl.SameChecker(smallest, one), code)
}

func TestReadCheckerReadsAllTexts(t *testing.T) {
	for _, c := range sampleCheckers() {
		text := impl.CheckerText(c)
		if !isCheckerText(text) {
			t.Errorf("%.200q is not the text of a checker", text)
		}
		read, code := impl.ReadChecker(text)
		if code != impl.OK || !impl.SameChecker(read, c) {
			t.Errorf("%.200q: got %v and the code %d", text, read, code)
		}
	}
}

var textShape = regexp.MustCompile(`\Achecker( (0|[1-9][0-9]{0,8})){3}\n((yes|no)( (0|[1-9][0-9]{0,8}))+\n)+\z`)

// isCheckerText looks at the numbers by their indices in the lines.
func isCheckerText(text string) bool {
	if !textShape.MatchString(text) {
		return false
	}
	var rows [][]int
	for line := range strings.Lines(text) {
		var row []int
		for _, word := range strings.Fields(line)[1:] {
			n, _ := strconv.Atoi(word)
			row = append(row, n)
		}
		rows = append(rows, row)
	}
	states, stack, start := rows[0][0], rows[0][1], rows[0][2]
	if states != len(rows)-1 || states > impl.MaxStates || stack < 1 || stack > impl.MaxStack || start >= states {
		return false
	}
	for _, row := range rows[1:] {
		if len(row) != 8+2*stack {
			return false
		}
		for i, n := range row {
			if mark := i == 1 || i == 3; mark && n >= stack || !mark && n >= states {
				return false
			}
		}
	}
	return true
}

func expectSyntax(t *testing.T, text string) {
	t.Helper()
	c, code := impl.ReadChecker(text)
	expectError(t, strconv.Quote(text), impl.ErrSyntax, code, c)
}

func TestTextsOfNoChecker(t *testing.T) {
	for _, text := range []string{
		"", "\n", " ", "checker", "checker\n", "checker 1 1 0", "checker 1 1 0\n", "checker 0 1 0\n", "checker 0 0 0\n",
		"checker 1 1 0\n\n", "checker 1 1 0\nyes\n", "checker 1 1 0\nyes 0\n", "yes 0 0 0 0 0 0 0 0 0 0\n",
		"checker 1 0 0\nyes 0 0 0 0 0 0 0 0\n", "checker 1 -1 0\nyes 0 0 0 0 0 0\n", "checker 1 1\nyes 0 0 0 0 0 0 0 0 0 0\n",
		"checker 1 1 0 0\nyes 0 0 0 0 0 0 0 0 0 0\n", "checker 1 1 1\nyes 0 0 0 0 0 0 0 0 0 0\n", "checker 1 1 -1\nyes 0 0 0 0 0 0 0 0 0 0\n",
		"checker 2 1 0\nyes 0 0 0 0 0 0 0 0 0 0\n", "checker 0 1 0\nyes 0 0 0 0 0 0 0 0 0 0\n",
		"checker 1 9223372036854775807 0\nyes 0 0 0 0 0 0\n", "checker 1 9223372036854775806 0\nyes 0 0 0 0\n",
		"checker 1 18446744073709551617 0\nyes 0 0 0 0 0 0 0 0 0 0\n", "checker 18446744073709551617 1 0\nyes 0 0 0 0 0 0 0 0 0 0\n",
		"checker 1 4611686018427387904 0\nyes 0 0 0 0 0 0\n", "checker 1 1 0\nyes 0 0 0 0 0 0 0 0 0 18446744073709551616\n",
		smallestText + "\n", "\n" + smallestText, " " + smallestText, smallestText + " ", smallestText + "yes", smallestText + "\x00",
		smallestText + smallestText, smallestText + "yes 0 0 0 0 0 0 0 0 0 0\n", "\ufeff" + smallestText,
	} {
		expectSyntax(t, text)
	}
	for _, change := range [][2]string{
		{"\n", "\r\n"}, {"\n", ""}, {"\n", "\n\n"}, {"\n", " \n"}, {"\n", "\n "}, {"\n", " "}, {" ", "  "}, {" ", "\t"}, {" ", "\u00a0"}, {" ", "\n"}, {" ", ""},
		{"checker", "Checker"}, {"checker", "CHECKER"}, {"checker", "check"}, {"checker", ""}, {"checker", "automaton"},
		{"yes", "Yes"}, {"yes", "true"}, {"yes", "1"}, {"yes", ""}, {"yes", "yes no"}, {"yes", "y"}, {"yes", "maybe"},
		{"0", "00"}, {"0", "+0"}, {"0", "-0"}, {"0", "-1"}, {"0", "1"}, {"0", "0x0"}, {"0", "0.0"}, {"0", "0e0"}, {"0", "٠"}, {"0", "0_0"}, {"0", "a"}, {"0", ""}, {"0", "0 0"}, {"0", "0,"},
		{"1", "01"}, {"1", "+1"}, {"1", "1_"}, {"1", "41"}, {"1", "81"}, {"1", "1.0"},
	} {
		expectSyntax(t, strings.ReplaceAll(smallestText, change[0], change[1]))
		expectSyntax(t, strings.Replace(smallestText, change[0], change[1], 1))
		last := strings.LastIndex(smallestText, change[0])
		expectSyntax(t, smallestText[:last]+change[1]+smallestText[last+len(change[0]):])
	}
}

// checkReading checks that a text is read just if it is one of a checker.
func checkReading(t *testing.T, text string) {
	t.Helper()
	c, code := impl.ReadChecker(text)
	if !isCheckerText(text) {
		expectError(t, strconv.Quote(text), impl.ErrSyntax, code, c)
		return
	}
	expectChecker(t, "a text that is read", text, c, code)
}

func TestTextsWithOneChange(t *testing.T) {
	l := lottery(3)
	for _, text := range []string{smallestText, impl.CheckerText(l.checker(2, 1)), impl.CheckerText(l.checker(11, 2)), impl.CheckerText(impl.MatchedChecker())} {
		for _, changed := range textsWithOneChange(text, "0123489+- \n\tyn_.\x00") {
			checkReading(t, changed)
		}
	}
}

// textOfSize writes a text of any size in which all numbers are the same.
func textOfSize(states, stack int) string {
	numbers := strings.Repeat(" 0", 8+2*stack)
	return "checker " + strconv.Itoa(states) + " " + strconv.Itoa(stack) + " 0\n" + strings.Repeat("no"+numbers+"\n", states)
}

func TestReadCheckerSizes(t *testing.T) {
	for _, size := range [][2]int{{1, 1}, {impl.MaxStates, 1}, {1, impl.MaxStack}, {impl.MaxStates, impl.MaxStack}} {
		c, code := impl.ReadChecker(textOfSize(size[0], size[1]))
		expect(t, "size", told(size[0], size[1], 0), len(c.Accept), c.Stack, code)
	}
	for _, size := range [][2]int{{0, 1}, {1, 0}, {impl.MaxStates + 1, 1}, {1, impl.MaxStack + 1}, {impl.MaxStates + 1, impl.MaxStack}, {impl.MaxStates, impl.MaxStack + 1}} {
		expectSyntax(t, textOfSize(size[0], size[1]))
	}
}

func TestReadCheckerRange(t *testing.T) {
	full := evenChecker(impl.MaxStates, impl.MaxStack, impl.MaxStates-1, impl.MaxStack-1)
	longest := impl.CheckerText(full)
	for _, padding := range []string{"\n", " ", "0", "a", "\x00", " 0", smallestText} {
		for _, text := range []string{"", smallestText, longest} {
			padded := text + strings.Repeat(padding, impl.MaxText+2)
			expectSyntax(t, padded[:impl.MaxText])
			for _, length := range []int{impl.MaxText + 1, impl.MaxText + 2, len(padded)} {
				c, code := impl.ReadChecker(padded[:length])
				expectError(t, "a long text", impl.ErrRange, code, c)
			}
		}
	}
	c, code := impl.ReadChecker(strings.Repeat("checker 1 1 0\n", 1000000/14))
	expectError(t, "a very long text", impl.ErrRange, code, c)
}
