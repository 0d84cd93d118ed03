package tests

import (
	"strings"
	"testing"

	"loop.example/g01145/impl"
)

// allOfWord calls each function that has words alone as arguments.
func allOfWord(w, u string) string {
	valid := impl.ValidWord(w)
	partners, one := impl.PartnersOf(w)
	returns, calls, two := impl.PendingOf(w)
	matched, three := impl.IsMatched(w)
	depths, four := impl.DepthsOf(w)
	depth, five := impl.DepthOf(w)
	turned, six := impl.TurnWord(w)
	joined, seven := impl.JoinWords(u, w)
	factors, eight := impl.FactorsOf(w)
	core, nine := impl.CoreOf(w)
	full, ten := impl.CompleteWord(w)
	parents, eleven := impl.ParentsOf(w)
	rank, twelve := impl.RankMatched(w)
	shape, last := impl.ShapeOf(w)
	return told(valid, partners, one, returns, calls, two, matched, three, depths, four, depth, five, turned, six,
		joined, seven, factors, eight, core, nine, full, ten, parents, eleven, rank, twelve, shape, last)
}

// allOfPlace calls each function that has a number as an argument.
func allOfPlace(w string, i int64, u string) string {
	put, one := impl.PutAt(w, i, u)
	body, two := impl.BodyOf(w, i)
	cut, three := impl.CutMatched(w, i)
	children, four := impl.ChildrenOf(w, i)
	count, five := impl.CountMatched(i)
	at, six := impl.MatchedAt(i, int64(len(w)))
	crossed, seven := impl.MatchedAt(int64(len(w)), i)
	return told(put, one, body, two, cut, three, children, four, count, five, at, six, crossed, seven, impl.CodeName(i))
}

func TestEqualArgumentsHaveEqualResults(t *testing.T) {
	words := append(randomWords(1), noWords()...)
	for n, w := range words {
		u := words[len(words)-1-n]
		copied, other := strings.Clone(w), strings.Clone(u)
		if allOfWord(w, u) != allOfWord(copied, other) {
			t.Errorf("%.80q and %.80q have other results when they are told again", w, u)
		}
		for _, i := range farNumbers() {
			if allOfPlace(w, i, u) != allOfPlace(copied, i, other) {
				t.Errorf("%.80q, %d and %.80q have other results when they are told again", w, i, u)
			}
		}
	}
}

func TestResultsAreNewMemory(t *testing.T) {
	for _, w := range []string{"(a[b])b", "[()a]b(", strings.Repeat("(]", impl.MaxWord/2)} {
		before := allOfWord(w, "a") + allOfPlace(w, -1, "a")
		partners, _ := impl.PartnersOf(w)
		depths, _ := impl.DepthsOf(w)
		parents, _ := impl.ParentsOf(w)
		children, _ := impl.ChildrenOf(w, -1)
		for _, list := range [][]int64{partners, depths, parents, children} {
			list = list[:cap(list)]
			for i := range list {
				list[i] = -77
			}
		}
		factors, _ := impl.FactorsOf(w)
		for i := range factors {
			factors[i] = "gone"
		}
		if after := allOfWord(w, "a") + allOfPlace(w, -1, "a"); after != before {
			t.Errorf("%q: changed results change later ones", w)
		}
	}
}
