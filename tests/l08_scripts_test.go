package tests

import (
	"slices"
	"strconv"
	"strings"
	"testing"

	"loop.example/g01145/impl"
)

// answersByHistory returns the answers to the lines of a script.
func answersByHistory(v impl.Stream, lines []string) string {
	h := startHistory(v)
	answers := ""
	for _, line := range lines {
		d := h.desk(h.known)
		switch {
		case line == "verdict":
			answers += told(h.verdict())
		case line == "desk":
			answers += told(d.Read, d.State, len(d.Stack), len(d.Waiting))
		case line == "missing" && len(h.missing()) == 0:
			answers += "none"
		case line == "missing":
			answers += strings.Trim(told(h.missing()), "[]")
		case deedShape.MatchString(line):
			code := h.do(deedsOf(line)[0])
			answers += map[int64]string{impl.OK: "ok", impl.ErrRange: "error range", impl.ErrLimit: "error limit"}[code]
		default:
			answers += "what"
		}
		answers += "\n"
	}
	return answers
}

// checkScript checks the answers to lines, with a newline at the end and without.
func checkScript(t *testing.T, v impl.Stream, lines []string) {
	t.Helper()
	want := answersByHistory(v, lines)
	text := strings.Join(lines, "\n")
	if len(lines) > 0 {
		answers, code := impl.RunScript(v, text+"\n")
		expect(t, strconv.Quote(text+"\n"), told(want, 0), answers, code)
	}
	if len(lines) == 0 || lines[len(lines)-1] != "" {
		answers, code := impl.RunScript(v, text)
		expect(t, strconv.Quote(text), told(want, 0), answers, code)
	}
}

var strangeLines = []string{"", " ", "what", "hello", "Verdict", "verdict ", " verdict", "verdict 1", "desk 0", "desks", "desk\t", "missing none", "missing\r", "none", "ok", "save 0", "send 0", "send 0 0 0", "send 00 1", "send 0  1", "drop", "copy -1", "deliver +0", "deliver 1000", "0", "1 2", "verdict desk", "\x00", "é", "(a)"}

func TestScripts(t *testing.T) {
	t.Parallel()
	l := lottery(859)
	for _, v := range sampleStreams() {
		for _, count := range []int64{0, 1, 2, 5, 11, 30, 60, impl.MaxScriptLines} {
			var lines []string
			h := startHistory(v)
			for range count {
				switch l.below(8) {
				case 0:
					lines = append(lines, "verdict")
				case 1:
					lines = append(lines, "desk")
				case 2:
					lines = append(lines, "missing")
				case 3:
					lines = append(lines, strangeLines[l.below(int64(len(strangeLines)))])
				default:
					d := l.deed(h)
					h.do(d)
					lines = append(lines, textOfDeed(d))
				}
			}
			checkScript(t, v, lines)
		}
	}
}

func expectScript(t *testing.T, v impl.Stream, text, want string) {
	t.Helper()
	answers, code := impl.RunScript(v, text)
	expect(t, strconv.Quote(text), told(strconv.Quote(want), 0), strconv.Quote(answers), code)
}

func TestKnownScripts(t *testing.T) {
	v := chapterStream()
	for text, want := range map[string]string{
		"": "", "\n": "what\n", "\n\n": "what\nwhat\n", "\n\n\n": "what\nwhat\nwhat\n",
		"save": "ok\n", "save\n": "ok\n", "save\n\n": "ok\nwhat\n", "\nsave": "what\nok\n", "save\n\ncrash": "ok\nwhat\nok\n", "save\ncrash\n": "ok\nok\n",
		"verdict": "0\n", "desk": "0 0 0 0\n", "missing": "0 1 2\n", "save\r\n": "what\n", "save ": "what\n", " save": "what\n",
		"send 0 2\ndeliver 0\nverdict\ndesk\nmissing":                                                                "ok\nok\n1\n3 0 0 0\nnone\n",
		"send 2 2\ndeliver 0\nsend 0 0\ndeliver 0\ndesk\nmissing\nverdict\nsend 1 1\ndeliver 0\nsave\nverdict\ndesk": "ok\nok\nok\nok\n1 1 1 1\n1\n0\nok\nok\nok\n1\n3 0 0 0\n",
		"deliver 0\ncopy 0\ndrop 0\nsend 1 0\nsend 0 3\ndesk":                                                        "error range\nerror range\nerror range\nerror range\nerror range\n0 0 0 0\n",
		"send 1 2\ncopy 0\ndesk\ncrash\ndesk\nmissing\ncopy 0\nsave\ndeliver 0\ncrash\ndesk\nmissing\ndrop 0":        "ok\nok\n0 0 0 2\nok\n0 0 0 0\n0 1 2\nok\nok\nok\nok\n0 0 0 2\n0\nerror range\n",
		strings.Repeat("send 0 0\n", 13):                                                                             strings.Repeat("ok\n", 12) + "error limit\n",
		strings.Repeat("send 0 0\n", 12) + "send 1 0\nsend 0 3\nsend 1 1\nmissing\n":                                 strings.Repeat("ok\n", 12) + "error range\nerror range\nerror limit\n0 1 2\n",
	} {
		expectScript(t, v, text, want)
	}
	expectScript(t, streamOf(impl.MatchedChecker(), ")", "a"), "verdict\nsend 0 0\ndeliver 0\nverdict\ndesk\nmissing\ncrash\nverdict", "0\nok\nok\n2\n1 2 0 0\n1\nok\n0\n")
	expectScript(t, streamOf(evenChecker(1, 1, 0, 0), "a"), "verdict", "2\n")
	many := streamOf(impl.KindsChecker(), slices.Repeat([]string{"(]("}, impl.MaxPieces)...)
	expectScript(t, many, "missing\nsend 0 19\nsend 19 19\nsend 12 17\ndeliver 1\nmissing\ndeliver 1\nmissing\ndesk\ndeliver 0\nmissing\ndesk\nverdict",
		"0 1 2 3 4 5 6 7 8 9 10 11 12 13 14 15 16 17 18 19\nok\nok\nok\nok\n0 1 2 3 4 5 6 7 8 9 10 11 12 13 14 15 16 17 18\nok\n0 1 2 3 4 5 6 7 8 9 10 11 18\n0 0 0 7\nok\nnone\n20 1 20 0\n2\n")
}

// TestStrangeLines puts lines that are nothing between others; they change nothing.
func TestStrangeLines(t *testing.T) {
	v := chapterStream()
	for _, line := range append(strangeLines, slices.DeleteFunc(noWords(), func(w string) bool { return len(w) > 5000 || strings.Contains(w, "\n") })...) {
		checkScript(t, v, []string{line})
		checkScript(t, v, []string{"send 0 1", line, "deliver 0", line, "desk", "missing", line, "verdict"})
	}
	for _, d := range []string{"send 2 5", "copy 999", "drop 12", "save", "crash", "verdict", "desk", "missing"} {
		for _, changed := range textsWithOneChange(d, "029 -\tsdvm") {
			checkScript(t, v, []string{"send 1 1", "deliver 0", changed, "desk"})
		}
	}
}

// TestScriptsSayWhatDeedsDo compares scripts with the functions for lists of deeds.
func TestScriptsSayWhatDeedsDo(t *testing.T) {
	l := lottery(863)
	for _, v := range sampleStreams() {
		deeds := l.deeds(v, 40)
		for count := range deeds {
			var text strings.Builder
			for _, d := range deeds[:count] {
				text.WriteString(impl.DeedText(d) + "\n")
			}
			answers, code := impl.RunScript(v, text.String()+"verdict\ndesk\nmissing")
			p, done, _ := impl.PlantAfter(v, deeds[:count])
			verdict, _ := impl.VerdictAfter(v, deeds[:count])
			depth, _ := impl.DepthAfter(v, deeds[:count])
			missing, _ := impl.MissingAfter(v, deeds[:count])
			refused, error, last := impl.RefusedDeed(v, deeds[:count])
			list := "none"
			if len(missing) > 0 {
				list = strings.Trim(told(missing), "[]")
			}
			lines := strings.Split(answers, "\n")
			expect(t, "the last answers", told([]string{told(verdict), told(p.Desk.Read, p.Desk.State, depth, len(p.Desk.Waiting)), list, ""}, 0), lines[count:], code)
			okay := slices.DeleteFunc(slices.Clone(lines[:count]), func(line string) bool { return line != "ok" })
			expect(t, "the number of deeds that are done", told(done), len(okay))
			if last == impl.OK {
				expect(t, "the deed that is left out", "error "+impl.CodeName(error), lines[refused])
				expect(t, "those before", strings.Repeat("ok ", int(refused)), strings.Join(lines[:refused], " ")+strings.Repeat(" ", min(1, int(refused))))
			}
		}
	}
}

func TestScriptLimits(t *testing.T) {
	v := chapterStream()
	const lines, bytes = impl.MaxScriptLines, impl.MaxScriptText
	long := strings.Repeat("x", bytes)
	for _, x := range []struct {
		text    string
		answers int
	}{
		{strings.Repeat("\n", lines), lines}, {strings.Repeat("\n", lines-1), lines - 1}, {strings.Repeat("save\n", lines), lines},
		{strings.Repeat("\n", lines-1) + "save", lines}, {strings.Repeat("\n", lines-1) + "save\n", lines},
		{strings.Repeat("\n", lines+1), -1}, {strings.Repeat("save\n", lines+1), -1}, {strings.Repeat("save\n", lines) + "save", -1}, {strings.Repeat("\n", lines) + "save", -1}, {strings.Repeat("save\n", lines) + "\n", -1}, {strings.Repeat("save\n", lines) + " ", -1},
		{strings.Repeat("\n", 2*lines), -1}, {strings.Repeat("\n", bytes), -1}, {strings.Repeat("\n", bytes+1), -1},
		{long, 1}, {long[1:] + "\n", 1}, {long[2:] + "\n\n", 2}, {"save\n" + long[5:], 2}, {long[:bytes-2*(lines-1)] + strings.Repeat("\nx", lines-1), lines}, {long[:bytes-lines] + strings.Repeat("\n", lines), lines},
		{long + "x", -1}, {long + "\n", -1}, {"\n" + long, -1}, {long + long, -1}, {"save\n" + long[4:], -1}, {long[:bytes-lines-1] + strings.Repeat("\n", lines+1), -1},
	} {
		answers, code := impl.RunScript(v, x.text)
		name := told(len(x.text), "bytes with", strings.Count(x.text, "\n"), "newlines")
		if x.answers < 0 {
			expectError(t, name, impl.ErrRange, code, answers)
			continue
		}
		want := answersByHistory(v, strings.Split(strings.TrimSuffix(x.text, "\n"), "\n"))
		expect(t, name, told(x.answers, want, 0), strings.Count(answers, "\n"), answers, code)
	}
}

func TestScriptsExpectValidStreams(t *testing.T) {
	for _, v := range brokenStreams() {
		for _, text := range []string{"", "save", "verdict\n", strings.Repeat("\n", impl.MaxScriptLines+1), strings.Repeat("x", impl.MaxScriptText+1)} {
			answers, code := impl.RunScript(v, text)
			expectError(t, "RunScript", impl.ErrInvalid, code, answers)
		}
	}
}
