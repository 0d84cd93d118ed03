package tests

import (
	"strings"
	"testing"

	"loop.example/g01145/impl"
)

func TestJoinedWords(t *testing.T) {
	full := strings.Repeat("a", impl.MaxWord)
	for _, pair := range [][2]string{{"", ""}, {"(a", "b]"}, {"", "("}, {")", ""}, {full, ""}, {"", full}, {full[:59], "("}, {full[:30], full[:30]}} {
		joined, code := impl.JoinWords(pair[0], pair[1])
		expect(t, "JoinWords", told(pair[0]+pair[1], 0), joined, code)
	}
	for _, pair := range [][2]string{{full, "b"}, {"b", full}, {full[:30], full[:31]}, {full, full}} {
		joined, code := impl.JoinWords(pair[0], pair[1])
		expectError(t, "JoinWords", impl.ErrLimit, code, joined)
	}
}

func TestPutAt(t *testing.T) {
	put, one := impl.PutAt("(a[b]", 1, "[]")
	front, two := impl.PutAt("(a", 0, "b")
	back, three := impl.PutAt("(a", 2, "(]")
	nothing, four := impl.PutAt("", 0, "")
	expect(t, "PutAt", "([]a[b] 0 b(a 0 (a(] 0  0", put, one, front, two, back, three, nothing, four)
}

func TestPutAtErrors(t *testing.T) {
	full := strings.Repeat("(", impl.MaxWord)
	for _, i := range []int64{-9223372036854775808, -1, 3, 60, 9223372036854775807} {
		for _, u := range []string{"", "a", "(", full} { // the range comes ahead of the state
			put, code := impl.PutAt("(a", i, u)
			expectError(t, "PutAt", impl.ErrRange, code, put)
		}
	}
	for _, u := range []string{"(", ")", ")(", "())", full} {
		for _, w := range []string{"", "a", "()", full} { // the state comes ahead of the limit
			put, code := impl.PutAt(w, 0, u)
			expectError(t, "PutAt", impl.ErrState, code, put)
		}
	}
	for i := range int64(impl.MaxWord + 1) {
		put, one := impl.PutAt(full, i, "a")
		expectError(t, "PutAt", impl.ErrLimit, one, put)
		whole, two := impl.PutAt(full, i, "")
		expect(t, "PutAt", told(full, 0), whole, two)
	}
	put, one := impl.PutAt(full, 61, "")
	expectError(t, "PutAt", impl.ErrRange, one, put)
	longest, two := impl.PutAt(full[:58], 58, "[]")
	expect(t, "PutAt", told(full[:58]+"[]", 0), longest, two)
}

func TestPutAtKeepsTheMatching(t *testing.T) {
	for _, w := range append(randomWords(1)[:50], wordsOf(3)...) {
		for _, u := range []string{"", "a", "(]", "[a(b)]b"} {
			for i := range len(w) + 1 {
				put, code := impl.PutAt(w, int64(i), u)
				expect(t, "PutAt", told(w[:i]+u+w[i:], 0), put, code)
				want := movedPartners(w, i, len(u))
				for k, partner := range partnersByBalance(put) {
					old := k
					if k >= i+len(u) {
						old = k - len(u)
					}
					if (k < i || k >= i+len(u)) && partner != want[old] {
						t.Fatalf("%q with %q behind %d: the place %d matches %d", w, u, i, k, partner)
					}
				}
			}
		}
	}
}

// movedPartners returns the partners of a word if those from i on are moved.
func movedPartners(w string, i, by int) []int64 {
	partners := partnersByBalance(w)
	for k, partner := range partners {
		if partner >= int64(i) {
			partners[k] = partner + int64(by)
		}
	}
	return partners
}

func TestBodyAndCut(t *testing.T) {
	body, one := impl.BodyOf("(a[b]", 2)
	empty, two := impl.BodyOf("a(]", 1)
	outer, three := impl.BodyOf(")[(a)b)]", 1)
	expect(t, "BodyOf", "b 0  0 (a)b 0", body, one, empty, two, outer, three)
	cut, four := impl.CutMatched("(a[b])b)", 2)
	nothing, five := impl.CutMatched("[)", 0)
	left, six := impl.CutMatched(")[(a)b)]", 1)
	expect(t, "CutMatched", "(a)b) 0  0 )] 0", cut, four, nothing, five, left, six)
}

func TestBodyAndCutUndoPutting(t *testing.T) {
	for _, w := range sampleWords() {
		for i, partner := range partnersByBalance(w) {
			place := int64(i)
			body, one := impl.BodyOf(w, place)
			cut, two := impl.CutMatched(w, place)
			if !isCall(w[i]) || partner < 0 {
				expectError(t, w, impl.ErrState, one, body)
				expectError(t, w, impl.ErrState, two, cut)
				continue
			}
			expect(t, w, told(w[i+1:partner], 0, w[:i]+w[partner+1:], 0), body, one, cut, two)
			back, three := impl.PutAt(cut, place, w[i:partner+1])
			expect(t, "putting in what was cut", told(w, 0), back, three)
		}
	}
	for _, w := range randomWords(1)[:57] {
		for i := range len(w) + 1 {
			put, one := impl.PutAt(w, int64(i), "[b)")
			cut, two := impl.CutMatched(put, int64(i))
			body, three := impl.BodyOf(put, int64(i))
			expect(t, "cutting what was put in", told(w, "b", 0, 0, 0), cut, body, one, two, three)
		}
	}
}

func TestBodyAndCutRange(t *testing.T) {
	for _, w := range []string{"", "a", "(", "()", strings.Repeat("()", 30)} {
		for _, i := range farNumbers() {
			if i >= 0 && i < int64(len(w)) {
				continue
			}
			body, one := impl.BodyOf(w, i)
			expectError(t, w, impl.ErrRange, one, body)
			cut, two := impl.CutMatched(w, i)
			expectError(t, w, impl.ErrRange, two, cut)
		}
	}
}

func TestFactors(t *testing.T) {
	for w, want := range map[string][]string{
		"":           {},
		"a":          {"a"},
		"(]":         {"(]"},
		"ba":         {"b", "a"},
		"(()a)[b]":   {"(()a)", "[b]"},
		"a[[b]()]b":  {"a", "[[b]()]", "b"},
		"()[)":       {"()", "[)"},
		"([a)]b(())": {"([a)]", "b", "(())"},
	} {
		factors, code := impl.FactorsOf(w)
		expect(t, w, told(len(want), strings.Join(want, "."), 0), len(factors), strings.Join(factors, "."), code)
	}
	for _, w := range sampleWords() {
		factors, code := impl.FactorsOf(w)
		if coreByCancelling(w) != "" {
			expectError(t, w, impl.ErrState, code, factors)
			continue
		}
		expect(t, w, told(w, 0), strings.Join(factors, ""), code)
		for _, f := range factors {
			letter := f == "a" || f == "b"
			tree := f != "" && partnersByBalance(f)[0] == int64(len(f)-1)
			if !letter && !tree {
				t.Errorf("%q has the factor %q", w, f)
			}
		}
	}
}

func TestCore(t *testing.T) {
	for w, want := range map[string]string{
		"": " 0", "a(b)": " 0", "(a[b]": "( 0", ")a(b)][": ")][ 0", "a](]([b": "]([ 0",
	} {
		core, code := impl.CoreOf(w)
		expect(t, w, want, core, code)
	}
	for _, w := range sampleWords() {
		core, code := impl.CoreOf(w)
		expect(t, w, told(coreByCancelling(w), 0), core, code)
	}
}

func TestCompleteWord(t *testing.T) {
	for w, want := range map[string]string{
		"":         " 0",
		"a[)":      "a[) 0",
		"(a[b]":    "(a[b]) 0",
		"(a[b])b)": "((a[b])b) 0",
		"[(":       "[()] 0",
		"])":       "((]) 0",
		"]a[(b":    "(]a[(b)] 0",
	} {
		full, code := impl.CompleteWord(w)
		expect(t, w, want, full, code)
	}
	closing := strings.NewReplacer("(", ")", "[", "]")
	for _, w := range sampleWords() {
		core := coreByCancelling(w)
		want := w
		for _, s := range core {
			if isReturn(byte(s)) {
				want = "(" + want
			}
		}
		for i := len(core) - 1; i >= 0 && isCall(core[i]); i-- {
			want += closing.Replace(core[i : i+1])
		}
		full, code := impl.CompleteWord(w)
		if len(want) > impl.MaxWord {
			expectError(t, w, impl.ErrLimit, code, full)
			continue
		}
		expect(t, w, told(want, 0), full, code)
	}
}

func TestCompleteWordLimit(t *testing.T) {
	half := impl.MaxWord / 2
	calls, returns := strings.Repeat("[", half), strings.Repeat("]", half)
	one, first := impl.CompleteWord(calls)
	two, second := impl.CompleteWord(returns)
	expect(t, "30 pending", told(calls+returns, 0, strings.Repeat("(", half)+returns, 0), one, first, two, second)
	for _, w := range []string{calls + "[", returns + "]", calls + "a", returns + "a", "]" + calls, strings.Repeat("(", 60), strings.Repeat("a", 59) + "("} {
		full, code := impl.CompleteWord(w)
		expectError(t, w, impl.ErrLimit, code, full)
	}
	most, third := impl.CompleteWord(strings.Repeat("a", 58) + "]")
	expect(t, "one pending", told("("+strings.Repeat("a", 58)+"]", 0), most, third)
}

// parentsByPartners follows the definition for each place on its own.
func parentsByPartners(w string) []int64 {
	partners := partnersByBalance(w)
	parents := make([]int64, len(w))
	for i := range len(w) {
		parents[i] = -1
		for k := i - 1; k >= 0; k-- {
			if isCall(w[k]) && (partners[k] == -2 || partners[k] > int64(i)) {
				parents[i] = int64(k)
				break
			}
		}
	}
	return parents
}

func TestParents(t *testing.T) {
	for w, want := range map[string]string{
		"":         "[] 0",
		"a(":       "[-1 -1] 0",
		"(a)b":     "[-1 0 -1 -1] 0",
		"(a[b])b)": "[-1 0 0 2 0 -1 -1 -1] 0",
		")([a":     "[-1 -1 1 2] 0",
		"([)a]":    "[-1 0 0 0 -1] 0",
		"((a)b":    "[-1 0 1 0 0] 0",
	} {
		parents, code := impl.ParentsOf(w)
		expect(t, w, want, parents, code)
	}
	for _, w := range sampleWords() {
		want := parentsByPartners(w)
		parents, code := impl.ParentsOf(w)
		expect(t, w, told(want, 0), parents, code)
		for i, partner := range partnersByBalance(w) {
			if partner >= 0 && parents[i] != parents[partner] {
				t.Errorf("%q: the places %d and %d match and have other parents", w, i, partner)
			}
		}
	}
}

func TestChildren(t *testing.T) {
	for w, want := range map[string]string{
		"": "[] 0", "(a": "[0] 0", "(a[b])b)": "[0 5 6 7] 0", "a)b": "[0 1 2] 0",
	} {
		children, code := impl.ChildrenOf(w, -1)
		expect(t, w, want, children, code)
	}
	first, one := impl.ChildrenOf("(a[b])b)", 0)
	none, two := impl.ChildrenOf("(a[b])b)", 7)
	expect(t, "children", "[1 2 4] 0 [] 0", first, one, none, two)
	for _, w := range sampleWords() {
		parents := parentsByPartners(w)
		for i := int64(-1); i < int64(len(w)); i++ {
			var want []int64
			for place, parent := range parents {
				if parent == i {
					want = append(want, int64(place))
				}
			}
			children, code := impl.ChildrenOf(w, i)
			expect(t, w, told(want, 0), children, code)
		}
	}
}

func TestChildrenRange(t *testing.T) {
	for _, w := range []string{"", "a", "(a)", strings.Repeat("(", impl.MaxWord)} {
		for _, i := range farNumbers() {
			if i >= -1 && i < int64(len(w)) {
				continue
			}
			children, code := impl.ChildrenOf(w, i)
			expectError(t, w, impl.ErrRange, code, children)
		}
	}
}

func TestShape(t *testing.T) {
	shape, code := impl.ShapeOf("[ab](]b[)")
	empty, two := impl.ShapeOf("")
	expect(t, "ShapeOf", "(aa)()a() 0  0", shape, code, empty, two)
	plain := strings.NewReplacer("[", "(", "]", ")", "b", "a")
	for _, w := range sampleWords() {
		shape, code := impl.ShapeOf(w)
		expect(t, w, told(plain.Replace(w), 0), shape, code)
	}
}
