package tests

import (
	"maps"
	"math"
	"slices"
	"strings"
	"testing"

	"loop.example/g01145/impl"
)

// deedNames has the word of each kind of deed, and behind it how many numbers its
// text mentions.
var deedNames = map[int64]struct {
	word    string
	numbers int
}{
	impl.DdSend: {"send", 2}, impl.DdDeliver: {"deliver", 1}, impl.DdCopy: {"copy", 1}, impl.DdDrop: {"drop", 1}, impl.DdSave: {"save", 0}, impl.DdCrash: {"crash", 0},
}

func send(a, b int64) impl.Deed { return impl.Deed{Kind: impl.DdSend, A: a, B: b} }

// deed returns one of another kind.
func deed(kind, a int64) impl.Deed { return impl.Deed{Kind: kind, A: a} }

// deedsOf returns the deeds of a text, which are separated by "; ".
func deedsOf(text string) []impl.Deed {
	var list []impl.Deed
	for part := range strings.SplitSeq(text, "; ") {
		words := strings.Fields(part)
		if len(words) == 0 {
			continue
		}
		var d impl.Deed
		for kind, form := range deedNames {
			if form.word == words[0] {
				d.Kind = kind
			}
		}
		if len(words) > 1 {
			d.A = number(words[1])
		}
		if len(words) > 2 {
			d.B = number(words[2])
		}
		list = append(list, d)
	}
	return list
}

func streamOf(c impl.Checker, pieces ...string) impl.Stream {
	return impl.Stream{Checker: c, Pieces: pieces}
}

// chapterStream is that of the example.
func chapterStream() impl.Stream { return streamOf(impl.MatchedChecker(), "(a", "[]", ")") }

func copiedStream(v impl.Stream) impl.Stream {
	return impl.Stream{Checker: copied(v.Checker), Pieces: slices.Clone(v.Pieces)}
}

// cutInto cuts a word into so many pieces, of which some may be empty.
func (l *lottery) cutInto(w string, count int64) []string {
	places := append(l.list(count-1, int64(len(w))+1), 0, int64(len(w)))
	slices.Sort(places)
	var pieces []string
	for i := range count {
		pieces = append(pieces, w[places[i]:places[i+1]])
	}
	return pieces
}

// sampleStreams returns streams of one piece, of as many as there may be, and of
// other numbers of them, with empty pieces and with words of all sorts.
func sampleStreams() []impl.Stream {
	l := lottery(811)
	shallow, _ := impl.DepthChecker(1)
	list := []impl.Stream{
		chapterStream(), streamOf(impl.MatchedChecker(), ""), streamOf(impl.KindsChecker(), "", "", ""), streamOf(impl.MatchedChecker(), ")", "a"),
		streamOf(shallow, "((", "", "))", "a"), streamOf(counting("a", 3), "a", "a", "", "a"), streamOf(counting("b", 2), "ab", "", "", "(b"),
		streamOf(impl.KindsChecker(), slices.Repeat([]string{"(]["}, impl.MaxPieces)...), streamOf(impl.MatchedChecker(), slices.Repeat([]string{""}, impl.MaxPieces)...),
		streamOf(impl.MatchedChecker(), strings.Repeat("(", impl.MaxWord)), streamOf(impl.KindsChecker(), strings.Repeat("[", 30), strings.Repeat("]", 30)),
	}
	words := append(randomWords(1), "(a[b])", "([()]b)a", strings.Repeat("()", 30), strings.Repeat("(", 30)+strings.Repeat("]", 30))
	checkers := append(sampleCheckers(), badCheckers()...)
	for i, w := range slices.Concat(words, words) {
		list = append(list, streamOf(checkers[(3*i)%len(checkers)], l.cutInto(w, 1+l.below(impl.MaxPieces))...))
	}
	return list
}

// brokenStreams returns streams that are not valid, most for one reason alone.
func brokenStreams() []impl.Stream {
	c := impl.MatchedChecker()
	full := strings.Repeat("a", impl.MaxWord)
	list := []impl.Stream{
		{}, streamOf(c), {Checker: c, Pieces: []string{}}, {Pieces: []string{"a"}}, {Pieces: []string{""}},
		streamOf(c, slices.Repeat([]string{""}, impl.MaxPieces+1)...), streamOf(c, slices.Repeat([]string{"a"}, impl.MaxPieces+1)...), streamOf(c, slices.Repeat([]string{"a"}, 2*impl.MaxPieces)...),
		streamOf(c, full, "a"), streamOf(c, "a", full), streamOf(c, full, full), streamOf(c, full[:30], full[:31]), streamOf(c, full[:20], "", full[:20], full[:20], "b"),
		streamOf(c, slices.Repeat([]string{"(a])"}, 16)...), streamOf(c, slices.Repeat([]string{full}, impl.MaxPieces)...),
	}
	for _, text := range noWords() {
		list = append(list, streamOf(c, text), streamOf(c, "a", text), streamOf(c, text, "(a)"), streamOf(c, "", "a", text, "", "b"))
	}
	for _, broken := range brokenCheckers() {
		list = append(list, streamOf(broken, "(a", "[]", ")"))
	}
	return list
}

// brokenDeeds returns deeds that are not valid, most for one reason alone.
func brokenDeeds() []impl.Deed {
	list := []impl.Deed{{}, {A: 1}, {A: 1, B: 2}}
	for _, kind := range []int64{math.MinInt64, -1, 0, 7, 8, 100, 1 << 32, 1<<32 + 1, math.MaxInt64} {
		list = append(list, impl.Deed{Kind: kind}, impl.Deed{Kind: kind, A: 1}, impl.Deed{Kind: kind, A: 1, B: 1})
	}
	for _, far := range []int64{math.MinInt64, -1000, -1, 1000, 1001, 1 << 32, 1<<32 + 1, math.MaxInt64} {
		list = append(list, send(far, 0), send(0, far), send(far, far), send(1, far), send(999, far))
		for kind := int64(impl.DdDeliver); kind <= impl.DdCrash; kind++ {
			list = append(list, deed(kind, far))
		}
	}
	for _, n := range []int64{-1, 1, 2, 999, 1000, math.MaxInt64} {
		for kind := int64(impl.DdDeliver); kind <= impl.DdCrash; kind++ {
			list = append(list, impl.Deed{Kind: kind, B: n}, impl.Deed{Kind: kind, A: 1, B: n})
		}
		list = append(list, deed(impl.DdSave, n), deed(impl.DdCrash, n))
	}
	return list
}

// lostByRounds takes away the states from which a move leads to one that is not
// lost, as long as there are any.
func lostByRounds(c impl.Checker) []int64 {
	var lost []int64
	for state, accepting := range c.Accept {
		if !accepting {
			lost = append(lost, int64(state))
		}
	}
	for before := -1; before != len(lost); {
		before = len(lost)
		now := slices.Clone(lost)
		lost = slices.DeleteFunc(lost, func(state int64) bool {
			targets := slices.Concat(c.Inner[state], c.Return[state][0], c.Return[state][1], []int64{c.Call[state][0].To, c.Call[state][1].To})
			return slices.ContainsFunc(targets, func(to int64) bool { return !slices.Contains(now, to) })
		})
	}
	return lost
}

// history has what has come to a desk, and does not read it: it tells what the desk
// should know by looking at the whole.
type history struct {
	stream impl.Stream
	known  map[int64]bool
	saved  map[int64]bool
	wire   [][2]int64
}

func startHistory(v impl.Stream) *history {
	return &history{stream: v, known: map[int64]bool{}, saved: map[int64]bool{}}
}

// do returns the error of a deed.
func (h *history) do(d impl.Deed) int64 {
	pieces, parcels := int64(len(h.stream.Pieces)), int64(len(h.wire))
	switch {
	case d.Kind == impl.DdSend && (d.A > d.B || d.B >= pieces):
		return impl.ErrRange
	case d.Kind == impl.DdSend && parcels == impl.MaxWire:
		return impl.ErrLimit
	case d.Kind == impl.DdSend:
		h.wire = append(h.wire, [2]int64{d.A, d.B})
		return impl.OK
	case d.Kind == impl.DdSave:
		h.saved = maps.Clone(h.known)
		return impl.OK
	case d.Kind == impl.DdCrash:
		h.known = maps.Clone(h.saved)
		return impl.OK
	case d.A >= parcels:
		return impl.ErrRange
	}
	if d.Kind != impl.DdDrop {
		for number := h.wire[d.A][0]; number <= h.wire[d.A][1]; number++ {
			h.known[number] = true
		}
	}
	if d.Kind != impl.DdCopy {
		h.wire = slices.Concat(h.wire[:d.A], h.wire[d.A+1:])
	}
	return impl.OK
}

func (h *history) doAll(deeds []impl.Deed) []int64 {
	var codes []int64
	for _, d := range deeds {
		codes = append(codes, h.do(d))
	}
	return codes
}

// desk returns the desk to which these pieces have come.
func (h *history) desk(known map[int64]bool) impl.Desk {
	var d impl.Desk
	for known[d.Read] {
		d.Read++
	}
	for number := d.Read; number < int64(len(h.stream.Pieces)); number++ {
		if known[number] {
			d.Waiting = append(d.Waiting, number)
		}
	}
	c := h.stream.Checker
	states, stacks := runByPlaces(c, c.Start, nil, strings.Join(h.stream.Pieces[:d.Read], ""))
	d.State, d.Stack = states[len(states)-1], stacks[len(stacks)-1]
	return d
}

func (h *history) plant() impl.Plant {
	p := impl.Plant{Desk: h.desk(h.known), Saved: h.desk(h.saved)}
	for _, x := range h.wire {
		p.Wire = append(p.Wire, impl.Parcel{First: x[0], Texts: h.stream.Pieces[x[0] : x[1]+1]})
	}
	return p
}

func (h *history) missing() []int64 {
	var list []int64
	for number := range int64(len(h.stream.Pieces)) {
		if !h.known[number] {
			list = append(list, number)
		}
	}
	return list
}

func (h *history) verdict() int64 {
	state := h.desk(h.known).State
	switch {
	case len(h.missing()) == 0 && h.stream.Checker.Accept[state]:
		return impl.VdTakes
	case len(h.missing()) == 0 || slices.Contains(lostByRounds(h.stream.Checker), state):
		return impl.VdRefuses
	}
	return impl.VdOpen
}

func (h *history) plan() []impl.Deed {
	var list []impl.Deed
	for range h.wire {
		list = append(list, deed(impl.DdDrop, 0))
	}
	for _, number := range h.missing() {
		list = append(list, send(number, number), deed(impl.DdDeliver, 0))
	}
	return append(list, deed(impl.DdSave, 0))
}

// deed draws one that can often be done.
func (l *lottery) deed(h *history) impl.Deed {
	pieces, parcels := int64(len(h.stream.Pieces)), int64(len(h.wire))
	switch kind := 1 + l.below(12); {
	case kind <= 4:
		a := l.below(pieces)
		return send(a, min(a+l.below(3), pieces-l.below(10)/9))
	case kind <= 7:
		return deed(impl.DdDeliver, l.below(parcels+1))
	case kind == 8:
		return deed(impl.DdCopy, l.below(parcels+1))
	case kind == 9:
		return deed(impl.DdDrop, l.below(parcels+1))
	case kind == 10:
		return deed(impl.DdSave, 0)
	case kind == 11:
		return deed(impl.DdCrash, 0)
	}
	return send(l.below(pieces+2), l.below(pieces+2))
}

func (l *lottery) deeds(v impl.Stream, count int64) []impl.Deed {
	h := startHistory(v)
	var list []impl.Deed
	for range count {
		d := l.deed(h)
		h.do(d)
		list = append(list, d)
	}
	return list
}

// toldAfter writes all that is told behind deeds; the plan comes with its code, as
// it may be too long.
func toldAfter(v impl.Stream, deeds []impl.Deed) string {
	p, done, one := impl.PlantAfter(v, deeds)
	verdict, two := impl.VerdictAfter(v, deeds)
	missing, three := impl.MissingAfter(v, deeds)
	depth, four := impl.DepthAfter(v, deeds)
	refused, code, five := impl.RefusedDeed(v, deeds)
	plan, six := impl.FinishDeeds(v, deeds)
	return told(p, done, one, verdict, two, missing, three, depth, four, refused, code, five, plan, six)
}

func toldByHistory(v impl.Stream, deeds []impl.Deed) string {
	h := startHistory(v)
	codes := h.doAll(deeds)
	done, refused, code, five := int64(0), int64(0), int64(0), int64(impl.ErrNotFound)
	for i, c := range slices.Backward(codes) {
		if c == impl.OK {
			done++
		} else {
			refused, code, five = int64(i), c, impl.OK
		}
	}
	plan, six := h.plan(), int64(impl.OK)
	if len(plan)+len(deeds) > impl.MaxDeeds {
		plan, six = nil, impl.ErrLimit
	}
	return told(h.plant(), done, 0, h.verdict(), 0, h.missing(), 0, len(h.plant().Desk.Stack), 0, refused, code, five, plan, six)
}

// checkAfter checks all that is told behind deeds.
func checkAfter(t *testing.T, v impl.Stream, deeds []impl.Deed) {
	t.Helper()
	if got, want := toldAfter(v, deeds), toldByHistory(v, deeds); got != want {
		t.Fatalf("%v and %v: got %s, want %s", v.Pieces, deeds, got, want)
	}
}

// expectNothingAfter checks that all functions for lists of deeds return an error.
func expectNothingAfter(t *testing.T, want int64, v impl.Stream, deeds []impl.Deed) {
	t.Helper()
	p, done, one := impl.PlantAfter(v, deeds)
	refused, code, two := impl.RefusedDeed(v, deeds)
	verdict, three := impl.VerdictAfter(v, deeds)
	missing, four := impl.MissingAfter(v, deeds)
	depth, five := impl.DepthAfter(v, deeds)
	plan, six := impl.FinishDeeds(v, deeds)
	expectError(t, "PlantAfter", want, one, p, done)
	expectError(t, "RefusedDeed", want, two, refused, code)
	expectError(t, "VerdictAfter", want, three, verdict)
	expectError(t, "MissingAfter", want, four, missing)
	expectError(t, "DepthAfter", want, five, depth)
	expectError(t, "FinishDeeds", want, six, plan)
}
