package tests

import (
	"strings"
	"testing"

	"loop.example/g01145/impl"
)

func TestIdentityRewriter(t *testing.T) {
	r := impl.IdentityRewriter()
	expectRewriter(t, "IdentityRewriter", sameTexts("(", "[", ")", "]", "a", "b"), r, impl.OK)
	expectWritten(t, "IdentityRewriter", r, sampleWords(), func(w string) string { return w })
}

func TestRenameRewriter(t *testing.T) {
	renamed := 0
	for _, names := range wordsOf(6) {
		r, code := impl.RenameRewriter(names)
		if strings.Trim(names[:2], "([")+strings.Trim(names[2:4], ")]")+strings.Trim(names[4:], "ab") != "" {
			expectError(t, names, impl.ErrRange, code, r)
			continue
		}
		renamed++
		expectRewriter(t, names, sameTexts(strings.Split(names, "")...), r, code)
		if renamed%8 == 3 {
			replacer := strings.NewReplacer("(", names[:1], "[", names[1:2], ")", names[2:3], "]", names[3:4], "a", names[4:5], "b", names[5:])
			expectWritten(t, names, r, sampleWords(), replacer.Replace)
		}
	}
	expect(t, "names", "64", renamed)
}

func TestRenameRewriterRange(t *testing.T) {
	for _, names := range append(noWords(), "", "(", "()", "([)]", "([)]a", "([)]abb", "([)]ab([)]ab", "()[]ab", "ab([)]", ")]([ab", "([)]ac", "([)]a ", " ([)]ab", "([)]ab ", "([)]ab\n", "{[)]ab", "((()))", "((((((", "aaaaaa") {
		r, code := impl.RenameRewriter(names)
		expectError(t, names[:min(len(names), 20)], impl.ErrRange, code, r)
	}
}

func TestDropRewriter(t *testing.T) {
	for letter, want := range map[string]impl.Rewriter{"a": sameTexts("(", "[", ")", "]", "", "b"), "b": sameTexts("(", "[", ")", "]", "a", "")} {
		r, code := impl.DropRewriter(letter)
		expectRewriter(t, "DropRewriter", want, r, code)
		expectWritten(t, "DropRewriter", r, sampleWords(), func(w string) string { return strings.ReplaceAll(w, letter, "") })
	}
}

// thinned leaves the first one of a letter out, the third one and so on.
func thinned(w, letter string) string {
	parts := strings.Split(w, letter)
	text := parts[0]
	for i, part := range parts[1:] {
		if i%2 == 1 {
			text += letter
		}
		text += part
	}
	return text
}

func TestThinRewriter(t *testing.T) {
	for _, letter := range []string{"a", "b"} {
		r, code := impl.ThinRewriter(letter)
		want := evenRewriter(2, 1, 0, 0, "")
		for state := range int64(2) {
			for kind := range 2 {
				want.Call[state][kind] = impl.OutPush{To: state, Out: "(["[kind : kind+1]}
				want.Inner[state][kind] = impl.OutMove{To: state, Out: "ab"[kind : kind+1]}
				back := impl.OutMove{To: state, Out: ")]"[kind : kind+1]}
				want.Return[state][kind] = []impl.OutMove{back, back}
			}
		}
		kind := strings.Index("ab", letter)
		want.Inner[0][kind], want.Inner[1][kind] = impl.OutMove{To: 1}, impl.OutMove{To: 0, Out: letter}
		expectRewriter(t, "ThinRewriter", want, r, code)
		expectWritten(t, "ThinRewriter", r, sampleWords(), func(w string) string { return thinned(w, letter) })
	}
	expect(t, "thinned", "a(a) ba)a[", thinned("aa(aa)", "a"), thinned("baa)aa[", "a"))
}

// unwrapped leaves the calls of a kind out, and the returns that match them,
// whatever these are.
func unwrapped(w, call string) string {
	partners := partnersByBalance(w)
	text := ""
	for i := range len(w) {
		isBack := isReturn(w[i]) && partners[i] >= 0 && w[partners[i]] == call[0]
		if w[i] != call[0] && !isBack {
			text += w[i : i+1]
		}
	}
	return text
}

func TestUnwrapRewriter(t *testing.T) {
	for call, outs := range map[string][2]string{"(": {"", "["}, "[": {"(", ""}} {
		r, code := impl.UnwrapRewriter(call)
		want := evenRewriter(1, 2, 0, 0, "")
		for kind := range 2 {
			want.Call[0][kind].Out = outs[kind]
			if outs[kind] == "" {
				want.Call[0][kind].Put = 1
			}
			back := ")]"[kind : kind+1]
			want.Return[0][kind] = []impl.OutMove{{Out: back}, {}, {Out: back}}
			want.Inner[0][kind].Out = "ab"[kind : kind+1]
		}
		expectRewriter(t, "UnwrapRewriter", want, r, code)
		expectWritten(t, "UnwrapRewriter", r, sampleWords(), func(w string) string { return unwrapped(w, call) })
	}
	square := made(impl.UnwrapRewriter("["))
	for w, want := range map[string]string{
		"[a(b)]": "a(b) 0", "[)": " 0", "(]": "(] 0", "[(])": "(] 0", "]": "] 0", "[]]": "] 0", "([)]": "(] 0", "[[a": "a 0", ")[)": ") 0", "": " 0",
	} {
		text, code := impl.Rewrite(square, w)
		expect(t, w, want, text, code)
	}
}

// fixed gives each return the kind of the call that it matches.
func fixed(w string) string {
	text := []byte(w)
	for i, partner := range partnersByBalance(w) {
		if isReturn(w[i]) && partner >= 0 {
			text[i] = map[byte]byte{'(': ')', '[': ']'}[w[partner]]
		}
	}
	return string(text)
}

func TestFixRewriter(t *testing.T) {
	r := impl.FixRewriter()
	want := evenRewriter(1, 2, 0, 0, "")
	for kind := range 2 {
		want.Call[0][kind] = impl.OutPush{Put: int64(kind), Out: "(["[kind : kind+1]}
		want.Return[0][kind] = []impl.OutMove{{Out: ")"}, {Out: "]"}, {Out: ")]"[kind : kind+1]}}
		want.Inner[0][kind].Out = "ab"[kind : kind+1]
	}
	expectRewriter(t, "FixRewriter", want, r, impl.OK)
	expectWritten(t, "FixRewriter", r, sampleWords(), fixed)
	for w, want := range map[string]string{
		"(a][b)": "(a)[b] 0", "(]": "() 0", "[)": "[] 0", "([))": "([]) 0", "]": "] 0", ")": ") 0", "(])": "()) 0", "[)]": "[]] 0", "[(": "[( 0", "": " 0",
	} {
		text, code := impl.Rewrite(r, w)
		expect(t, w, want, text, code)
	}
}

func TestKnownRewritersRange(t *testing.T) {
	for _, text := range append(noWords(), "", "ab", "([", "()", "aa", "bb", ")]", "([)]ab", "((", "a(", ")", "]", "a ", "A", "B", "{") {
		name := text[:min(len(text), 20)]
		drop, one := impl.DropRewriter(text)
		expectError(t, "DropRewriter of "+name, impl.ErrRange, one, drop)
		thin, two := impl.ThinRewriter(text)
		expectError(t, "ThinRewriter of "+name, impl.ErrRange, two, thin)
		unwrap, three := impl.UnwrapRewriter(text)
		expectError(t, "UnwrapRewriter of "+name, impl.ErrRange, three, unwrap)
	}
	for _, call := range []string{"(", "["} {
		drop, one := impl.DropRewriter(call)
		expectError(t, "DropRewriter of a call", impl.ErrRange, one, drop)
		thin, two := impl.ThinRewriter(call)
		expectError(t, "ThinRewriter of a call", impl.ErrRange, two, thin)
	}
	for _, letter := range []string{"a", "b"} {
		unwrap, code := impl.UnwrapRewriter(letter)
		expectError(t, "UnwrapRewriter of a letter", impl.ErrRange, code, unwrap)
	}
}
