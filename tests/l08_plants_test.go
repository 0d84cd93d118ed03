package tests

import (
	"slices"
	"strings"
	"testing"

	"loop.example/g01145/impl"
)

// TestPlants compares all that is told with what a history of pieces tells, behind
// lists of deeds of all lengths.
func TestPlants(t *testing.T) {
	t.Parallel()
	l := lottery(829)
	met := map[string]int{}
	for _, v := range sampleStreams() {
		for _, count := range []int64{0, 1, 2, 3, 5, 8, 12, 20, 30, 45, 70, 150, impl.MaxDeeds - 3, impl.MaxDeeds} {
			deeds := l.deeds(v, count)
			checkAfter(t, v, deeds)
			h := startHistory(v)
			for _, code := range h.doAll(deeds) {
				met[told("code", code)]++
			}
			met[told("verdict", h.verdict())]++
			p := h.plant()
			if len(p.Desk.Waiting) > 0 && p.Desk.Read > 0 {
				met["some wait"]++
			}
			if len(p.Saved.Waiting) > 0 {
				met["some that wait are saved"]++
			}
			if len(p.Saved.Stack) > 0 && !slices.Equal(p.Saved.Stack, p.Desk.Stack) {
				met["another stack is saved"]++
			}
			if len(p.Wire) == impl.MaxWire {
				met["the wire is full"]++
			}
		}
	}
	for _, what := range []string{"code 0", "code 2", "code 3", "verdict 0", "verdict 1", "verdict 2", "some wait", "some that wait are saved", "another stack is saved", "the wire is full"} {
		if met[what] < 10 {
			t.Errorf("%s: only %d", what, met[what])
		}
	}
}

// TestAllShortListsOfDeeds does all lists of a few deeds.
func TestAllShortListsOfDeeds(t *testing.T) {
	t.Parallel()
	kinds, _ := impl.BothCheckers(impl.KindsChecker(), impl.MatchedChecker())
	for _, v := range []impl.Stream{chapterStream(), streamOf(kinds, "[(", "", ")a")} {
		for _, choice := range []string{
			"send 0 2; send 1 1; send 2 2; deliver 0; deliver 1; copy 0; drop 0; save; crash",
			"send 0 0; send 1 2; deliver 0; copy 1; save; crash",
		} {
			deeds := deedsOf(choice)
			most := 4
			if len(deeds) < 7 {
				most = 6
			}
			lists := [][]impl.Deed{nil}
			for range most {
				var longer [][]impl.Deed
				for _, list := range lists {
					for _, d := range deeds {
						longer = append(longer, append(slices.Clone(list), d))
					}
				}
				lists = longer
				for _, list := range lists {
					checkAfter(t, v, list)
				}
			}
		}
	}
}

// expectPlant checks the plant behind deeds, and how many of them are done.
func expectPlant(t *testing.T, v impl.Stream, deeds, want string, done int) {
	t.Helper()
	p, count, code := impl.PlantAfter(v, deedsOf(deeds))
	expect(t, deeds, told(want, done, 0), p, count, code)
	checkAfter(t, v, deedsOf(deeds))
}

func TestKnownPlants(t *testing.T) {
	v := streamOf(impl.MatchedChecker(), "(a", "[]", ")", "(")
	for _, x := range []struct {
		deeds string
		plant string
		done  int
	}{
		{"", "{{0 0 [] []} {0 0 [] []} []}", 0},
		// Parcels of one piece and of all.
		{"send 3 3", "{{0 0 [] []} {0 0 [] []} [{3 [(]}]}", 1},
		{"send 0 3; send 1 2", "{{0 0 [] []} {0 0 [] []} [{0 [(a [] ) (]} {1 [[] )]}]}", 2},
		{"send 0 3; deliver 0", "{{4 1 [0] []} {0 0 [] []} []}", 2},
		{"send 0 3; copy 0", "{{4 1 [0] []} {0 0 [] []} [{0 [(a [] ) (]}]}", 2},
		{"send 0 3; drop 0", "{{0 0 [] []} {0 0 [] []} []}", 2},
		// Each number is that of a parcel as they are then.
		{"send 0 0; send 1 1; send 2 2; drop 1; deliver 1; deliver 0; deliver 0", "{{1 1 [0] [2]} {0 0 [] []} []}", 6},
		{"send 2 2; send 1 1; send 0 0; deliver 2; deliver 1; deliver 0", "{{3 0 [] []} {0 0 [] []} []}", 6},
		// Pieces that wait already, or have been read already.
		{"send 2 3; copy 0; copy 0; deliver 0", "{{0 0 [] [2 3]} {0 0 [] []} []}", 4},
		{"send 0 0; copy 0; copy 0; deliver 0", "{{1 1 [0] []} {0 0 [] []} []}", 4},
		{"send 0 1; send 1 3; deliver 0; deliver 0", "{{4 1 [0] []} {0 0 [] []} []}", 4},
		{"send 3 3; send 1 3; send 0 1; deliver 0; deliver 0; copy 0; deliver 0", "{{4 1 [0] []} {0 0 [] []} []}", 7},
		// A crash ahead of the first save.
		{"crash", "{{0 0 [] []} {0 0 [] []} []}", 1},
		{"send 0 1; send 3 3; deliver 0; copy 0; crash", "{{0 0 [] []} {0 0 [] []} [{3 [(]}]}", 5},
		// A save while pieces wait.
		{"send 2 2; deliver 0; save; crash", "{{0 0 [] [2]} {0 0 [] [2]} []}", 4},
		{"send 2 2; deliver 0; save; send 0 1; deliver 0", "{{3 0 [] []} {0 0 [] [2]} []}", 5},
		{"send 2 2; deliver 0; save; send 0 1; deliver 0; crash", "{{0 0 [] [2]} {0 0 [] [2]} []}", 6},
		{"send 2 2; deliver 0; save; send 0 1; copy 0; crash; deliver 0", "{{3 0 [] []} {0 0 [] [2]} []}", 7},
		{"send 0 0; send 2 3; deliver 0; deliver 0; save; send 1 1; copy 0; crash; copy 0; crash", "{{1 1 [0] [2 3]} {1 1 [0] [2 3]} [{1 [[]]}]}", 10},
		// Those that came in behind the save, and wait, are lost.
		{"send 3 3; deliver 0; save; send 1 2; deliver 0; crash", "{{0 0 [] [3]} {0 0 [] [3]} []}", 6},
		{"save; send 1 3; deliver 0; crash; send 0 0; deliver 0", "{{1 1 [0] []} {0 0 [] []} []}", 6},
		// What is saved twice is the last, and what has been saved stays.
		{"send 0 0; deliver 0; save; send 1 1; deliver 0; save; send 2 2; deliver 0; crash; crash", "{{2 1 [0] []} {2 1 [0] []} []}", 10},
		{"send 0 0; copy 0; save; send 1 3; deliver 1; crash; send 2 2; deliver 1; crash; deliver 0", "{{1 1 [0] []} {1 1 [0] []} []}", 10},
		// Deeds that would return an error, between deeds that are done.
		{"deliver 0; send 0 4; send 0 1; send 2 1; copy 1; deliver 0; drop 0; send 4 4; save", "{{2 1 [0] []} {2 1 [0] []} []}", 3},
		{"copy 0; drop 0; deliver 0; send 999 999; send 999 0; deliver 999", "{{0 0 [] []} {0 0 [] []} []}", 0},
	} {
		expectPlant(t, v, x.deeds, x.plant, x.done)
	}
}

// TestStacksOfDesksArePlain reads on behind a save, so that marks that have been
// saved are taken off and others are put in their places.
func TestStacksOfDesksArePlain(t *testing.T) {
	v := streamOf(impl.KindsChecker(), "([(", ")]", "[[", ")))", "[")
	for count := range int64(5) {
		deeds := []impl.Deed{send(0, count), deed(impl.DdDeliver, 0), deed(impl.DdSave, 0), send(0, 4), deed(impl.DdCopy, 0)}
		checkAfter(t, v, deeds)
		for range 3 {
			deeds = append(deeds, deed(impl.DdCrash, 0))
			checkAfter(t, v, deeds)
			deeds = append(deeds, deed(impl.DdCopy, 0))
			checkAfter(t, v, deeds)
		}
	}
	expectPlant(t, v, "send 0 0; deliver 0; save; send 1 2; deliver 0", "{{3 0 [0 1 1] []} {1 0 [0 1 0] []} []}", 5)
	expectPlant(t, v, "send 0 0; deliver 0; save; send 1 2; deliver 0; crash", "{{1 0 [0 1 0] []} {1 0 [0 1 0] []} []}", 6)
}

func TestWiresHaveAtMostMaxWireParcels(t *testing.T) {
	v := chapterStream()
	for count := range 2*impl.MaxWire + 1 {
		deeds := slices.Repeat([]impl.Deed{send(1, 2)}, count)
		p, done, one := impl.PlantAfter(v, deeds)
		most := min(count, impl.MaxWire)
		expect(t, "parcels", told(most, most, 0), len(p.Wire), done, one)
		refused, code, two := impl.RefusedDeed(v, deeds)
		if count > impl.MaxWire {
			expect(t, "RefusedDeed", told(impl.MaxWire, impl.ErrLimit, 0), refused, code, two)
		} else {
			expectError(t, "RefusedDeed", impl.ErrNotFound, two, refused, code)
		}
	}
	full := slices.Repeat([]impl.Deed{send(1, 1)}, impl.MaxWire)
	for deeds, want := range map[string]string{
		// There is no place for one more, not even one that has all pieces.
		"send 0 2":                      "12 3",
		"send 0 0":                      "12 3",
		"deliver 11; send 0 2":          "-",
		"deliver 0; send 2 2; send 0 0": "14 3",
		"copy 0; send 0 2":              "13 3",
		"drop 5; send 0 2; copy 11":     "-",
		"save; crash; send 0 2":         "14 3",
		"copy 11; deliver 12":           "13 2",
		"drop 12":                       "12 2",
		"deliver 11; deliver 11":        "13 2",
		// What is out of the range comes first.
		"send 0 3":     "12 2",
		"send 2 1":     "12 2",
		"send 999 999": "12 2",
	} {
		list := slices.Concat(full, deedsOf(deeds))
		checkAfter(t, v, list)
		refused, code, last := impl.RefusedDeed(v, list)
		if want == "-" {
			expectError(t, deeds, impl.ErrNotFound, last, refused, code)
		} else {
			expect(t, deeds, want+" 0", refused, code, last)
		}
	}
}

// TestDeedsOutOfTheirRange tries all numbers on a plant with a few parcels.
func TestDeedsOutOfTheirRange(t *testing.T) {
	for pieces := range int64(impl.MaxPieces) {
		v := streamOf(impl.MatchedChecker(), slices.Repeat([]string{"(a)"}, int(pieces)+1)...)
		for _, a := range []int64{0, 1, 2, 3, pieces - 1, pieces, pieces + 1, 19, 20, 21, 998, 999} {
			a = max(a, 0)
			for _, b := range []int64{0, 1, 2, 5, a, a + 1, pieces, pieces + 1, 20, 999} {
				list := []impl.Deed{send(a, min(b, 999))}
				refused, code, last := impl.RefusedDeed(v, list)
				if a > b || b > pieces {
					expect(t, told(v.Pieces, list), "0 2 0", refused, code, last)
				} else {
					expectError(t, told(v.Pieces, list), impl.ErrNotFound, last, refused, code)
				}
			}
		}
	}
	v := chapterStream()
	for parcels := range int64(impl.MaxWire + 1) {
		for kind := int64(impl.DdDeliver); kind <= impl.DdDrop; kind++ {
			for _, a := range []int64{0, 1, parcels - 1, parcels, parcels + 1, 12, 999} {
				list := append(slices.Repeat([]impl.Deed{send(0, 2)}, int(parcels)), deed(kind, max(a, 0)))
				checkAfter(t, v, list)
				refused, code, last := impl.RefusedDeed(v, list)
				if max(a, 0) >= parcels {
					expect(t, told(list), told(parcels, impl.ErrRange, 0), refused, code, last)
				} else {
					expectError(t, told(list), impl.ErrNotFound, last, refused, code)
				}
			}
		}
	}
}

func TestRefusedDeeds(t *testing.T) {
	v := chapterStream()
	for deeds, want := range map[string]string{
		"deliver 0": "0 2 0", "save; copy 0": "1 2 0", "save; crash; drop 0; deliver 0": "2 2 0", "send 0 2; deliver 0; deliver 0": "2 2 0", "send 1 0; send 0 0": "0 2 0", "send 0 3": "0 2 0",
		// What is left out changes nothing.
		"send 0 0; deliver 1; deliver 0; send 3 3": "1 2 0",
	} {
		refused, code, last := impl.RefusedDeed(v, deedsOf(deeds))
		expect(t, deeds, want, refused, code, last)
	}
	for _, deeds := range []string{"", "save", "crash", "send 0 0", "send 0 2; copy 0; deliver 0", "send 1 1; drop 0; crash; save"} {
		refused, code, last := impl.RefusedDeed(v, deedsOf(deeds))
		expectError(t, deeds, impl.ErrNotFound, last, refused, code)
	}
}

func TestListsHaveAtMostMaxDeeds(t *testing.T) {
	v := chapterStream()
	for _, d := range []impl.Deed{deed(impl.DdSave, 0), deed(impl.DdCrash, 0), deed(impl.DdDrop, 0), send(1, 1), send(2, 0)} {
		checkAfter(t, v, slices.Repeat([]impl.Deed{d}, impl.MaxDeeds-1))
		checkAfter(t, v, slices.Repeat([]impl.Deed{d}, impl.MaxDeeds))
		for _, count := range []int{impl.MaxDeeds + 1, impl.MaxDeeds + 2, 2 * impl.MaxDeeds} {
			expectNothingAfter(t, impl.ErrRange, v, slices.Repeat([]impl.Deed{d}, count))
		}
	}
}

func TestBrokenStreamsAndDeeds(t *testing.T) {
	v, whole := chapterStream(), deedsOf("send 0 2; deliver 0; save")
	many := slices.Repeat(whole, impl.MaxDeeds)
	for _, broken := range brokenStreams() {
		expectNothingAfter(t, impl.ErrInvalid, broken, whole)
		expectNothingAfter(t, impl.ErrInvalid, broken, nil)
		expectNothingAfter(t, impl.ErrInvalid, broken, many)
	}
	for _, d := range brokenDeeds() {
		for place := range len(whole) + 1 {
			expectNothingAfter(t, impl.ErrInvalid, v, slices.Insert(slices.Clone(whole), place, d))
		}
		expectNothingAfter(t, impl.ErrInvalid, v, []impl.Deed{d})
		// One that is not valid is found ahead of there being too many.
		expectNothingAfter(t, impl.ErrInvalid, v, append(slices.Clone(many), d))
		expectNothingAfter(t, impl.ErrInvalid, v, slices.Insert(slices.Clone(many), impl.MaxDeeds, d))
	}
}

// deliveries returns deeds that bring each piece in alone, in this order.
func deliveries(order []int64) []impl.Deed {
	var deeds []impl.Deed
	for _, number := range order {
		deeds = append(deeds, send(number, number), deed(impl.DdDeliver, 0))
	}
	return deeds
}

// TestAnyOrderComesToTheVerdictOfTheWhole brings pieces in in all orders, or in some.
func TestAnyOrderComesToTheVerdictOfTheWhole(t *testing.T) {
	t.Parallel()
	l := lottery(839)
	for _, v := range sampleStreams() {
		want := int64(impl.VdRefuses)
		whole, _ := impl.WholeOf(v)
		if takes, _ := impl.Takes(v.Checker, whole); takes {
			want = impl.VdTakes
		}
		states, stack, _ := impl.RunOf(v.Checker, whole)
		for range 6 {
			order := firstNumbers(int64(len(v.Pieces)))
			for i := range order {
				k := l.below(int64(i) + 1)
				order[i], order[k] = order[k], order[i]
			}
			deeds := deliveries(order)
			p, done, one := impl.PlantAfter(v, deeds)
			verdict, two := impl.VerdictAfter(v, deeds)
			depth, three := impl.DepthAfter(v, deeds)
			expect(t, told(v.Pieces, order), told(len(order), states[len(states)-1], stack, len(deeds), 0, want, 0, len(stack), 0),
				p.Desk.Read, p.Desk.State, p.Desk.Stack, done, one, verdict, two, depth, three)
		}
	}
}

// TestVerdictsThatAreKnownAreThoseOfTheWhole looks at the verdict behind each deed.
func TestVerdictsThatAreKnownAreThoseOfTheWhole(t *testing.T) {
	t.Parallel()
	l := lottery(853)
	known := map[int64]int{}
	early := 0
	for _, v := range sampleStreams() {
		whole, _ := impl.WholeOf(v)
		takes, _ := impl.Takes(v.Checker, whole)
		deeds := l.deeds(v, 60)
		for count := range deeds {
			verdict, code := impl.VerdictAfter(v, deeds[:count])
			known[verdict]++
			if code != impl.OK || verdict != impl.VdOpen && (verdict == impl.VdTakes) != takes {
				t.Fatalf("%v and %v: got the verdict %d, the whole is taken: %v", v.Pieces, deeds[:count], verdict, takes)
			}
			if missing, _ := impl.MissingAfter(v, deeds[:count]); verdict == impl.VdRefuses && len(missing) > 0 {
				early++
			}
			if missing, _ := impl.MissingAfter(v, deeds[:count]); verdict == impl.VdOpen && len(missing) == 0 {
				t.Fatalf("%v and %v: nothing is missing, and nothing is known", v.Pieces, deeds[:count])
			}
		}
	}
	if known[impl.VdOpen] < 100 || known[impl.VdTakes] < 100 || known[impl.VdRefuses] < 100 || early < 20 {
		t.Errorf("only these are known: %v, %d early ones", known, early)
	}
}

func TestKnownVerdicts(t *testing.T) {
	matched, kinds := impl.MatchedChecker(), impl.KindsChecker()
	shallow, _ := impl.DepthChecker(1)
	for _, x := range []struct {
		v     impl.Stream
		deeds string
		want  int64
	}{
		{streamOf(matched, ""), "", impl.VdOpen},
		{streamOf(matched, ""), "send 0 0; deliver 0", impl.VdTakes},
		{streamOf(matched, "("), "send 0 0; copy 0", impl.VdRefuses},
		// All have been read: an accepting state is not enough ahead of the end, not even of an empty one.
		{streamOf(matched, "()", ""), "send 0 0; deliver 0", impl.VdOpen},
		{streamOf(matched, "()", ""), "send 0 1; deliver 0", impl.VdTakes},
		{streamOf(matched, "()", "", ")"), "send 0 1; deliver 0", impl.VdOpen},
		{streamOf(matched, "(", ")"), "send 1 1; deliver 0", impl.VdOpen},
		// A state that is not accepting is enough only if it is lost.
		{streamOf(matched, "(", ")"), "send 0 0; deliver 0", impl.VdOpen},
		{streamOf(matched, "(", "("), "send 0 1; deliver 0", impl.VdRefuses},
		{streamOf(matched, ")", "a", "b"), "send 0 0; deliver 0", impl.VdRefuses},
		{streamOf(matched, ")", "a", "b"), "send 1 2; deliver 0", impl.VdOpen},
		{streamOf(kinds, "(", "]", "a"), "send 0 1; deliver 0", impl.VdRefuses},
		{streamOf(kinds, "(", "]", "a"), "send 0 0; deliver 0", impl.VdOpen},
		{streamOf(shallow, "((", "))"), "send 0 0; deliver 0", impl.VdRefuses},
		// What is lost again is not known any more.
		{streamOf(matched, ")", "a"), "send 0 0; deliver 0; crash", impl.VdOpen},
		{streamOf(matched, ")", "a"), "send 0 0; deliver 0; save; crash", impl.VdRefuses},
		{streamOf(matched, "a", "b"), "send 0 1; deliver 0; crash", impl.VdOpen},
		// Nothing needs to be read if Start is lost.
		{streamOf(evenChecker(2, 1, 0, 0), "a"), "", impl.VdRefuses},
		{streamOf(evenChecker(2, 1, 0, 0), "a", "b"), "send 1 1; deliver 0", impl.VdRefuses},
		{streamOf(opposite(evenChecker(2, 1, 0, 0)), "a"), "", impl.VdOpen},
		{streamOf(opposite(evenChecker(2, 1, 0, 0)), "a"), "send 0 0; deliver 0", impl.VdTakes},
	} {
		verdict, code := impl.VerdictAfter(x.v, deedsOf(x.deeds))
		expect(t, told(x.v.Pieces, x.deeds), told(x.want, 0), verdict, code)
	}
}

// TestDeedsWithoutEffect adds deeds that change nothing that is known.
func TestDeedsWithoutEffect(t *testing.T) {
	v := streamOf(impl.MatchedChecker(), "((", "a)", "[", "])b")
	for deeds, more := range map[string]string{
		"send 0 1; deliver 0":             "send 0 1; deliver 0",
		"send 2 3; copy 0":                "deliver 0; send 3 3; deliver 0",
		"send 0 3; deliver 0; save":       "crash; send 1 2; copy 0; deliver 0; crash",
		"send 1 2; deliver 0; save":       "send 0 0; send 3 3; copy 0; copy 1; crash; drop 0; drop 0",
		"send 0 2; deliver 0; send 0 0":   "drop 0; deliver 0; send 9 9; copy 3",
		"send 0 0; deliver 0; save; save": "crash; crash",
	} {
		one, _, _ := impl.PlantAfter(v, deedsOf(deeds))
		two, _, _ := impl.PlantAfter(v, deedsOf(deeds+"; "+more))
		expect(t, deeds, told(one.Desk), two.Desk)
	}
}

// TestFinishDeeds does the deeds of plans: all can be done, and behind them all has
// been read and saved.
func TestFinishDeeds(t *testing.T) {
	t.Parallel()
	l := lottery(857)
	for _, v := range sampleStreams() {
		whole, _ := impl.WholeOf(v)
		takes, _ := impl.Takes(v.Checker, whole)
		states, stack, _ := impl.RunOf(v.Checker, whole)
		all := impl.Desk{Read: int64(len(v.Pieces)), State: states[len(states)-1], Stack: stack}
		for _, count := range []int64{0, 1, 2, 4, 7, 12, 25, 60, 120} {
			deeds := l.deeds(v, count)
			plan, code := impl.FinishDeeds(v, deeds)
			if code != impl.OK {
				t.Fatalf("%v: got the code %d", deeds, code)
			}
			p, done, one := impl.PlantAfter(v, slices.Concat(deeds, plan))
			_, before, _ := impl.PlantAfter(v, deeds)
			expect(t, "the plant behind a plan", told(impl.Plant{Desk: all, Saved: all}, before+int64(len(plan)), 0), p, done, one)
			verdict, two := impl.VerdictAfter(v, slices.Concat(deeds, plan, deedsOf("crash")))
			expect(t, "the verdict behind a plan", told(map[bool]int{true: impl.VdTakes, false: impl.VdRefuses}[takes], 0), verdict, two)
		}
	}
}

func TestKnownPlans(t *testing.T) {
	v := streamOf(impl.MatchedChecker(), "(", "a", "b", ")")
	for deeds, want := range map[string]string{
		"":                    "send 0 0; deliver 0; send 1 1; deliver 0; send 2 2; deliver 0; send 3 3; deliver 0; save",
		"send 0 3; deliver 0": "save", "send 0 3; copy 0": "drop 0; save", "send 0 3": "drop 0; send 0 0; deliver 0; send 1 1; deliver 0; send 2 2; deliver 0; send 3 3; deliver 0; save",
		"send 1 2; deliver 0; save":                       "send 0 0; deliver 0; send 3 3; deliver 0; save",
		"send 0 2; send 3 3; send 0 0; deliver 0":         "drop 0; drop 0; send 3 3; deliver 0; save",
		"send 3 3; deliver 0; send 1 1; copy 0":           "drop 0; send 0 0; deliver 0; send 2 2; deliver 0; save",
		"send 1 3; deliver 0; save; send 0 0; deliver 0":  "save",
		"send 0 3; deliver 0; crash":                      "send 0 0; deliver 0; send 1 1; deliver 0; send 2 2; deliver 0; send 3 3; deliver 0; save",
		"send 0 3; deliver 0; save; crash; crash; drop 0": "save",
	} {
		plan, code := impl.FinishDeeds(v, deedsOf(deeds))
		expect(t, deeds, told(deedsOf(want), 0), plan, code)
	}
	full := slices.Repeat([]impl.Deed{send(0, 3)}, impl.MaxWire)
	plan, code := impl.FinishDeeds(v, full)
	expect(t, "a full wire", told(slices.Concat(slices.Repeat(deedsOf("drop 0"), impl.MaxWire), deedsOf("send 0 0; deliver 0; send 1 1; deliver 0; send 2 2; deliver 0; send 3 3; deliver 0; save")), 0), plan, code)
}

// TestPlansHaveAtMostMaxDeeds has plans of all lengths behind lists with which there
// are exactly MaxDeeds deeds, and one more.
func TestPlansHaveAtMostMaxDeeds(t *testing.T) {
	many := streamOf(impl.MatchedChecker(), slices.Repeat([]string{"()"}, impl.MaxPieces)...)
	for _, x := range []struct {
		v     impl.Stream
		deeds string
	}{
		{streamOf(impl.MatchedChecker(), "a"), "send 0 0; deliver 0"}, {streamOf(impl.MatchedChecker(), "a"), "send 0 0; drop 0"}, {streamOf(impl.MatchedChecker(), "a"), "send 0 0; copy 0"},
		{many, "drop 0"}, {many, "send 0 19; deliver 0"}, {many, "send 0 19"}, {many, "send 1 19; deliver 0"}, {many, "send 5 9; deliver 0; send 0 0; send 19 19"}, {many, strings.Repeat("send 0 0; ", impl.MaxWire)},
	} {
		deeds := deedsOf(x.deeds)
		h := startHistory(x.v)
		h.doAll(deeds)
		length := len(h.plan())
		// What is left out counts as well.
		for _, filler := range []impl.Deed{send(2, 1), send(999, 999), deed(impl.DdDrop, 999)} {
			for _, count := range []int{impl.MaxDeeds - length - 1, impl.MaxDeeds - length, impl.MaxDeeds - length + 1, impl.MaxDeeds - 1, impl.MaxDeeds} {
				list := append(slices.Clone(deeds), slices.Repeat([]impl.Deed{filler}, count-len(deeds))...)
				plan, code := impl.FinishDeeds(x.v, list)
				if count+length > impl.MaxDeeds {
					expectError(t, x.deeds, impl.ErrLimit, code, plan)
				} else {
					expect(t, x.deeds, told(h.plan(), 0), plan, code)
				}
			}
			list := append(slices.Clone(deeds), slices.Repeat([]impl.Deed{filler}, impl.MaxDeeds+1-len(deeds))...)
			plan, code := impl.FinishDeeds(x.v, list)
			expectError(t, x.deeds, impl.ErrRange, code, plan)
		}
	}
}

// TestDepthsOfDesks reads as many calls as there can be.
func TestDepthsOfDesks(t *testing.T) {
	half := strings.Repeat("(", impl.MaxWord/2)
	for i, v := range []impl.Stream{streamOf(impl.KindsChecker(), half, half), streamOf(impl.MatchedChecker(), half, strings.Repeat("]", impl.MaxWord/2)), streamOf(impl.MatchedChecker(), ")))", "((", "a", "]](")} {
		for count := range int64(len(v.Pieces)) + 1 {
			deeds := deliveries(firstNumbers(count))
			depth, code := impl.DepthAfter(v, deeds)
			depths, _ := impl.DepthsOf(strings.Join(v.Pieces[:count], ""))
			expect(t, told("the stream", i, count), told(depths[len(depths)-1], 0), depth, code)
		}
	}
}
