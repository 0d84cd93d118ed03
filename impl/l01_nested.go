package impl

import (
	"iter"
	"slices"
	"strings"
)

// Codes of errors.
const (
	OK          = 0
	ErrInvalid  = 1
	ErrRange    = 2
	ErrLimit    = 3
	ErrState    = 4
	ErrSyntax   = 5
	ErrNotFound = 6
	ErrBudget   = 7
	ErrProof    = 8
)

// Limits of words.
const (
	MaxWord    = 60
	MaxCounted = 20
)

// What stands for a place where there is none.
const (
	innerPartner   = -1
	pendingPartner = -2
	noParent       = -1
)

// symbolTexts has the symbols in their order.
const symbolTexts = "([)]ab"

// symbol is the number of a symbol in the order of symbols, so that numbers
// compare as symbols do.
type symbol byte

const (
	roundCall symbol = iota
	squareCall
	roundReturn
	squareReturn
	letterA
	letterB
	symbolCount
)

func (s symbol) isCall() bool   { return s <= squareCall }
func (s symbol) isReturn() bool { return s == roundReturn || s == squareReturn }
func (s symbol) text() string   { return symbolTexts[s : s+1] }

// deepening is by how much a symbol changes the number of open calls.
func (s symbol) deepening() int64 {
	switch {
	case s.isCall():
		return 1
	case s.isReturn():
		return -1
	}
	return 0
}

// turned is the return of a call's kind, and the call of a return's kind.
func (s symbol) turned() symbol {
	switch s {
	case roundCall:
		return roundReturn
	case squareCall:
		return squareReturn
	case roundReturn:
		return roundCall
	case squareReturn:
		return squareCall
	}
	return s
}

// shape is the symbol that stands for all of this sort.
func (s symbol) shape() symbol {
	switch {
	case s.isCall():
		return roundCall
	case s.isReturn():
		return roundReturn
	}
	return letterA
}

// strangeLetter is what the parser panics with: a letter that is no symbol.
type strangeLetter byte

// symbolOf panics if letter is no symbol; readNested recovers this.
func symbolOf(letter byte) symbol {
	number := strings.IndexByte(symbolTexts, letter)
	if number < 0 {
		panic(strangeLetter(letter))
	}
	return symbol(number)
}

func textOf(symbols []symbol) string {
	text := ""
	for _, s := range symbols {
		text += s.text()
	}
	return text
}

// nested is a word that has been read.
type nested struct {
	symbols  []symbol
	partners []int64
}

// readNested returns false if text is not a word.
func readNested(text string) (n nested, valid bool) {
	if len(text) > MaxWord {
		return nested{}, false
	}
	defer func() {
		if recover() != nil {
			n, valid = nested{}, false
		}
	}()
	symbols := make([]symbol, 0, len(text))
	for i := range len(text) {
		symbols = append(symbols, symbolOf(text[i]))
	}
	return nested{symbols, matchSymbols(symbols)}, true
}

// matchSymbols looks at calls and returns alone, as their kinds do not matter
// for what they match.
func matchSymbols(symbols []symbol) []int64 {
	partners := make([]int64, len(symbols))
	var open []int64
	for i, s := range symbols {
		place := int64(i)
		switch {
		case s.isCall():
			partners[place] = pendingPartner
			open = append(open, place)
		case s.isReturn() && len(open) > 0:
			call := open[len(open)-1]
			open = open[:len(open)-1]
			partners[call], partners[place] = place, call
		case s.isReturn():
			partners[place] = pendingPartner
		default:
			partners[place] = innerPartner
		}
	}
	return partners
}

// places yields each place of a word, from left to right, with its parent.
func (n nested) places() iter.Seq2[int64, int64] {
	return func(yield func(place, parent int64) bool) {
		open := []int64{noParent}
		for i, s := range n.symbols {
			if s.isReturn() && n.partners[i] != pendingPartner {
				open = open[:len(open)-1]
			}
			if !yield(int64(i), open[len(open)-1]) {
				return
			}
			if s.isCall() {
				open = append(open, int64(i))
			}
		}
	}
}

func (n nested) parents() []int64 {
	var parents []int64
	for _, parent := range n.places() {
		parents = append(parents, parent)
	}
	return parents
}

// pendingPlaces yields the places of the pending returns, and then those of
// the pending calls, as no pending call stands before a pending return.
func (n nested) pendingPlaces() iter.Seq2[int64, symbol] {
	return func(yield func(place int64, s symbol) bool) {
		for i, s := range n.symbols {
			if n.partners[i] == pendingPartner && !yield(int64(i), s) {
				return
			}
		}
	}
}

func (n nested) isMatched() bool {
	for range n.pendingPlaces() {
		return false
	}
	return true
}

// depthsFrom returns the depths behind all beginnings if so many calls are open
// in front.
func (n nested) depthsFrom(depth int64) []int64 {
	depths := []int64{depth}
	for _, s := range n.symbols {
		// A pending return closes nothing.
		depth = max(0, depth+s.deepening())
		depths = append(depths, depth)
	}
	return depths
}

// limitedWord returns a text of symbols if it is short enough for a word.
func limitedWord(text string) (string, int64) {
	if len(text) > MaxWord {
		return "", ErrLimit
	}
	return text, OK
}

// CodeName returns the name of an error code.
func CodeName(code int64) string {
	switch code {
	case OK:
		return "ok"
	case ErrInvalid:
		return "invalid"
	case ErrRange:
		return "range"
	case ErrLimit:
		return "limit"
	case ErrState:
		return "state"
	case ErrSyntax:
		return "syntax"
	case ErrNotFound:
		return "notfound"
	case ErrBudget:
		return "budget"
	case ErrProof:
		return "proof"
	}
	return ""
}

// ValidWord reports whether a text is a word.
func ValidWord(w string) bool {
	_, valid := readNested(w)
	return valid
}

// PartnersOf returns, for each place, the place that it matches: -1 for inner
// letters, -2 for pending calls and returns.
func PartnersOf(w string) ([]int64, int64) {
	n, valid := readNested(w)
	if !valid {
		return nil, ErrInvalid
	}
	return n.partners, OK
}

// PendingOf returns the numbers of pending returns and calls.
func PendingOf(w string) (int64, int64, int64) {
	n, valid := readNested(w)
	if !valid {
		return 0, 0, ErrInvalid
	}
	var returns, calls int64
	for _, s := range n.pendingPlaces() {
		if s.isCall() {
			calls++
		} else {
			returns++
		}
	}
	return returns, calls, OK
}

// IsMatched reports whether a word is matched.
func IsMatched(w string) (bool, int64) {
	n, valid := readNested(w)
	if !valid {
		return false, ErrInvalid
	}
	return n.isMatched(), OK
}

// DepthsOf returns the depths behind all beginnings.
func DepthsOf(w string) ([]int64, int64) {
	n, valid := readNested(w)
	if !valid {
		return nil, ErrInvalid
	}
	return n.depthsFrom(0), OK
}

// DepthOf returns the greatest depth.
func DepthOf(w string) (int64, int64) {
	n, valid := readNested(w)
	if !valid {
		return 0, ErrInvalid
	}
	return slices.Max(n.depthsFrom(0)), OK
}

// TurnWord returns the turned word.
func TurnWord(w string) (string, int64) {
	n, valid := readNested(w)
	if !valid {
		return "", ErrInvalid
	}
	turned := ""
	for _, s := range n.symbols {
		turned = s.turned().text() + turned
	}
	return turned, OK
}

// JoinWords returns two words one behind the other.
func JoinWords(u, w string) (string, int64) {
	if !ValidWord(u) || !ValidWord(w) {
		return "", ErrInvalid
	}
	return limitedWord(u + w)
}

// PutAt puts a matched word in behind the first i symbols.
func PutAt(w string, i int64, u string) (string, int64) {
	n, valid := readNested(u)
	switch {
	case !valid || !ValidWord(w):
		return "", ErrInvalid
	case i < 0 || i > int64(len(w)):
		return "", ErrRange
	case !n.isMatched():
		return "", ErrState
	}
	return limitedWord(w[:i] + u + w[i:])
}

// returnOfCall returns the place of the return that the call at the place i
// matches.
func returnOfCall(w string, i int64) (int64, int64) {
	n, valid := readNested(w)
	switch {
	case !valid:
		return 0, ErrInvalid
	case i < 0 || i >= int64(len(w)):
		return 0, ErrRange
	case !n.symbols[i].isCall() || n.partners[i] == pendingPartner:
		return 0, ErrState
	}
	return n.partners[i], OK
}

// BodyOf returns what stands between a call and its return.
func BodyOf(w string, i int64) (string, int64) {
	end, code := returnOfCall(w, i)
	if code != OK {
		return "", code
	}
	return w[i+1 : end], OK
}

// CutMatched takes a call, its body and its return away.
func CutMatched(w string, i int64) (string, int64) {
	end, code := returnOfCall(w, i)
	if code != OK {
		return "", code
	}
	return w[:i] + w[end+1:], OK
}

// FactorsOf returns the factors of a matched word.
func FactorsOf(w string) ([]string, int64) {
	n, valid := readNested(w)
	if !valid {
		return nil, ErrInvalid
	}
	if !n.isMatched() {
		return nil, ErrState
	}
	var factors []string
	for place, parent := range n.places() {
		if parent != noParent || n.symbols[place].isReturn() {
			continue
		}
		// An inner letter has no partner, and ends where it begins.
		end := max(place, n.partners[place])
		factors = append(factors, w[place:end+1])
	}
	return factors, OK
}

// CoreOf returns the pending symbols.
func CoreOf(w string) (string, int64) {
	n, valid := readNested(w)
	if !valid {
		return "", ErrInvalid
	}
	core := ""
	for _, s := range n.pendingPlaces() {
		core += s.text()
	}
	return core, OK
}

// CompleteWord returns the shortest matched word with a word in it.
func CompleteWord(w string) (string, int64) {
	n, valid := readNested(w)
	if !valid {
		return "", ErrInvalid
	}
	front, back := "", ""
	for _, s := range n.pendingPlaces() {
		if s.isCall() {
			back = s.turned().text() + back
		} else {
			front += roundCall.text()
		}
	}
	return limitedWord(front + w + back)
}

// ParentsOf returns the parents of all places.
func ParentsOf(w string) ([]int64, int64) {
	n, valid := readNested(w)
	if !valid {
		return nil, ErrInvalid
	}
	return n.parents(), OK
}

// ChildrenOf returns the places with a parent; -1 stands for none.
func ChildrenOf(w string, i int64) ([]int64, int64) {
	n, valid := readNested(w)
	if !valid {
		return nil, ErrInvalid
	}
	if i < noParent || i >= int64(len(w)) {
		return nil, ErrRange
	}
	var children []int64
	for place, parent := range n.places() {
		if parent == i {
			children = append(children, place)
		}
	}
	return children, OK
}

// endings has, for a number of symbols and a number of open calls, the number
// of texts of so many symbols that close just these calls. The last column
// stays 0: so many calls cannot be closed any more.
type endings [MaxCounted + 1][MaxCounted + 2]int64

func countEndings() endings {
	var ways endings
	ways[0][0] = 1
	for length := int64(1); length <= MaxCounted; length++ {
		for open := range int64(MaxCounted + 1) {
			for s := range symbolCount {
				ways[length][open] += ways.behind(s, length-1, open)
			}
		}
	}
	return ways
}

// behind returns how many texts of a length close what is open behind the
// symbol s; with no call open, a return would stay pending.
func (ways *endings) behind(s symbol, length, open int64) int64 {
	next := open + s.deepening()
	if next < 0 {
		return 0
	}
	return ways[length][next]
}

// CountMatched returns the number of matched words of a length.
func CountMatched(length int64) (int64, int64) {
	if length < 0 || length > MaxCounted {
		return 0, ErrRange
	}
	ways := countEndings()
	return ways[length][0], OK
}

// MatchedAt returns the matched word with a number.
func MatchedAt(length, k int64) (string, int64) {
	count, code := CountMatched(length)
	if code != OK {
		return "", code
	}
	if k < 0 || k >= count {
		return "", ErrRange
	}
	ways := countEndings()
	word, open := "", int64(0)
	for rest := length - 1; rest >= 0; rest-- {
		s := roundCall
		for ; k >= ways.behind(s, rest, open); s++ {
			k -= ways.behind(s, rest, open)
		}
		word += s.text()
		open += s.deepening()
	}
	return word, OK
}

// RankMatched returns the number of a matched word.
func RankMatched(w string) (int64, int64) {
	n, valid := readNested(w)
	switch {
	case !valid:
		return 0, ErrInvalid
	case len(w) > MaxCounted:
		return 0, ErrLimit
	case !n.isMatched():
		return 0, ErrState
	}
	ways := countEndings()
	rank, open := int64(0), int64(0)
	for i, s := range n.symbols {
		rest := int64(len(w) - 1 - i)
		for smaller := range s {
			rank += ways.behind(smaller, rest, open)
		}
		open += s.deepening()
	}
	return rank, OK
}

// ShapeOf returns the word without kinds.
func ShapeOf(w string) (string, int64) {
	n, valid := readNested(w)
	if !valid {
		return "", ErrInvalid
	}
	shape := ""
	for _, s := range n.symbols {
		shape += s.shape().text()
	}
	return shape, OK
}
