package tests

import (
	"fmt"
	"math"
	"slices"
	"strconv"
	"strings"
	"testing"

	"loop.example/g01145/impl"
)

// program returns what the lines of a text tell, which are separated by "; ".
func program(lines string) impl.Program {
	var p impl.Program
	for line := range strings.SplitSeq(lines, "; ") {
		words := strings.Fields(line)
		if words[0] == "module" {
			p.Modules = append(p.Modules, impl.Module{Nodes: number(words[1])})
			continue
		}
		l := impl.Link{From: number(words[1]), To: number(words[2]), Act: words[3]}
		if len(words) > 4 {
			l.Module = number(words[4])
		}
		m := &p.Modules[len(p.Modules)-1]
		m.Links = append(m.Links, l)
	}
	return p
}

func number(word string) int64 {
	n, err := strconv.ParseInt(word, 10, 64)
	if err != nil {
		panic(err)
	}
	return n
}

// act returns a link that writes a letter, as "a", or calls a module, as "(]2".
func act(from, to int64, text string) impl.Link {
	if len(text) == 1 {
		return impl.Link{From: from, To: to, Act: text}
	}
	return impl.Link{From: from, To: to, Act: text[:2], Module: number(text[2:])}
}

// line returns a module with a link from each node to the next one.
func line(acts ...string) impl.Module {
	m := impl.Module{Nodes: int64(len(acts)) + 1}
	for i, text := range acts {
		m.Links = append(m.Links, act(int64(i), int64(i)+1, text))
	}
	return m
}

// ring returns a module with one node, which is the entry and the exit.
func ring(acts ...string) impl.Module {
	m := impl.Module{Nodes: 1}
	for _, text := range acts {
		m.Links = append(m.Links, act(0, 0, text))
	}
	return m
}

func programOf(modules ...impl.Module) impl.Program { return impl.Program{Modules: modules} }

// chapterProgram is that of the example.
func chapterProgram() impl.Program {
	return program("module 3; link 0 2 a; link 0 1 () 0; link 1 2 b")
}

func textOfProgram(p impl.Program) string {
	var b strings.Builder
	for _, m := range p.Modules {
		fmt.Fprintf(&b, "module %d\n", m.Nodes)
		for _, l := range m.Links {
			fmt.Fprintf(&b, "link %d %d %s", l.From, l.To, l.Act)
			if len(l.Act) > 1 {
				fmt.Fprintf(&b, " %d", l.Module)
			}
			b.WriteString("\n")
		}
	}
	return b.String()
}

func copiedProgram(p impl.Program) impl.Program {
	p.Modules = slices.Clone(p.Modules)
	for i, m := range p.Modules {
		p.Modules[i].Links = slices.Clone(m.Links)
	}
	return p
}

func exitOf(p impl.Program, module int64) int64 { return p.Modules[module].Nodes - 1 }

func (l *lottery) link(nodes, modules, callsOfTen int64) impl.Link {
	link := impl.Link{From: l.below(nodes), To: l.below(nodes), Act: []string{"a", "b"}[l.below(2)]}
	if l.below(10) < callsOfTen {
		link.Act, link.Module = pairTexts[l.below(4)], l.below(modules)
	}
	return link
}

// program returns one in which any link may lead anywhere.
func (l *lottery) program(modules, nodes, links, callsOfTen int64) impl.Program {
	var p impl.Program
	for range modules {
		m := impl.Module{Nodes: 1 + l.below(nodes)}
		for range l.below(links + 1) {
			m.Links = append(m.Links, l.link(m.Nodes, modules, callsOfTen))
		}
		p.Modules = append(p.Modules, m)
	}
	return p
}

// lines returns a program of modules in which each node leads to the next one,
// often by a call of a later module, and in which there are a few other links.
func (l *lottery) lines(modules, most int64) impl.Program {
	var p impl.Program
	for module := range modules {
		var acts []string
		for range 1 + l.below(most) {
			text := []string{"a", "b"}[l.below(2)]
			if later := modules - module - 1; later > 0 && l.below(3) > 0 {
				text = pairTexts[l.below(4)] + strconv.Itoa(int(module+1+l.below(later)))
			}
			acts = append(acts, text)
		}
		m := line(acts...)
		for range l.below(3) {
			m.Links = append(m.Links, l.link(m.Nodes, modules, 6))
		}
		p.Modules = append(p.Modules, m)
	}
	return p
}

// specialPrograms returns the programs that the chapter makes one think of.
func specialPrograms() []impl.Program {
	list := []impl.Program{chapterProgram()}
	for _, lines := range []string{
		"module 1", "module 2", "module 8", "module 1; module 1; module 1; module 1", // no links
		"module 1; link 0 0 a", "module 1; link 0 0 () 0", "module 1; link 0 0 (] 0; link 0 0 b; link 0 0 [] 0", // the entry is the exit
		"module 2; link 0 1 () 1; module 1", "module 2; link 0 1 [) 1; module 1; link 0 0 a",
		"module 2; link 0 1 () 1; module 2", "module 2; link 0 1 () 1; link 0 1 b; module 2; link 1 0 a", // modules that do not end
		"module 2; link 0 1 () 0", "module 2; link 0 1 () 0; link 1 0 a", // calls that do not end
		"module 3; link 0 2 a; module 2; link 0 1 b", "module 3; link 0 1 a; link 2 1 b; module 2; link 0 1 () 0", // never called
		"module 2; link 0 1 a; link 0 1 () 1; module 2; link 0 1 b; link 0 1 [] 0", // each calls the other one
		"module 2; link 0 1 () 1; module 2; link 0 1 [] 2; link 0 1 b; module 2; link 0 1 (] 3; module 2; link 0 1 [) 0; link 0 1 a",
		"module 2; link 0 1 a; link 1 1 b; link 1 0 a", "module 2; link 0 1 a; link 1 1 () 0; link 1 0 [] 0", // links begin at the exit
		"module 3; link 0 2 a; link 2 1 b; link 1 2 () 1; module 2; link 0 1 a; link 1 0 [) 1; link 1 1 b",
		"module 2; link 0 1 a; link 0 1 a; link 0 1 a", "module 3; link 0 1 a; link 0 1 a; link 1 2 b; link 1 2 b", // the same link twice
		"module 3; link 0 2 b; link 0 2 a; link 0 1 b; link 0 1 a; link 1 2 b; link 1 2 a",
		"module 2; link 0 1 () 2; link 0 1 () 1; module 1; link 0 0 a; module 2; link 0 0 a; link 0 1 a",
		"module 2; link 0 1 [] 1; link 0 1 [) 1; link 0 1 (] 1; link 0 1 () 1; module 2; link 0 1 b; link 0 1 a",
		"module 3; link 0 1 () 1; link 1 2 () 1; module 2; link 0 1 a; link 0 1 () 1", // one module called from two nodes
		"module 2; link 0 1 () 1; module 3; link 0 1 a; link 0 2 () 1; link 1 2 b; module 2; link 0 0 b; link 0 1 [] 1",
	} {
		list = append(list, program(lines))
	}
	return append(list, fullProgram(), programOf(line("()1", "a", "[]2"), line("b", "(]3"), ring("a", "()2"), line("a", "b")))
}

// fullProgram has as many modules, nodes and links as there may be, and the
// longest text.
func fullProgram() impl.Program {
	var p impl.Program
	for module := range int64(impl.MaxModules) {
		m := impl.Module{Nodes: impl.MaxNodes}
		for i := range int64(impl.MaxLinks) {
			m.Links = append(m.Links, impl.Link{From: i % impl.MaxNodes, To: (3*i + 1) % impl.MaxNodes, Act: pairTexts[i%4], Module: (module + i) % impl.MaxModules})
		}
		p.Modules = append(p.Modules, m)
	}
	return p
}

// samplePrograms returns programs of all sizes and sorts.
func samplePrograms() []impl.Program {
	l := lottery(701)
	list := specialPrograms()
	for i := range int64(60) {
		list = append(list, l.program(1+i%impl.MaxModules, 1+i%impl.MaxNodes, 2+i%(impl.MaxLinks-1), i%8))
	}
	for i := range int64(40) {
		list = append(list, l.lines(1+i%impl.MaxModules, 1+i%(impl.MaxNodes-1)))
	}
	return list
}

// programNumbers returns all numbers of a program.
func programNumbers(p *impl.Program) []*int64 {
	var list []*int64
	for i := range p.Modules {
		m := &p.Modules[i]
		list = append(list, &m.Nodes)
		for k := range m.Links {
			l := &m.Links[k]
			list = append(list, &l.From, &l.To, &l.Module)
		}
	}
	return list
}

// noActs returns texts that are not what a link can write.
func noActs() []string {
	list := slices.DeleteFunc(wordsOf(2), func(text string) bool { return slices.Contains(pairTexts, text) })
	return append(list, slices.Concat([]string{"", "(", "[", ")", "]", "A", "-1", "aa", "ab", "(a", "a)", "()a", "(a)", "()()", "( )", "<>", "{}", " a", "a ", "a\n", "[[]]", "])"}, noWords())...)
}

// brokenPrograms returns programs that are not valid, most for one reason alone.
func brokenPrograms() []impl.Program {
	whole := program("module 3; link 0 2 a; link 1 2 () 1; link 2 0 [) 2; module 2; link 0 1 b; link 1 1 [] 0; module 4; link 3 0 (] 1")
	var list []impl.Program
	broken := func(change func(p *impl.Program)) {
		p := copiedProgram(whole)
		change(&p)
		list = append(list, p)
	}
	for i := range whole.Modules {
		for _, nodes := range []int64{math.MinInt64, -1, 0, impl.MaxNodes + 1, impl.MaxNodes + 2, 1 << 32, 1<<32 + 4, math.MaxInt64} {
			broken(func(p *impl.Program) { p.Modules[i].Nodes = nodes })
		}
		broken(func(p *impl.Program) {
			p.Modules[i].Links = slices.Repeat(p.Modules[i].Links[:1], impl.MaxLinks+1)
		})
		for k, l := range whole.Modules[i].Links {
			nodes := whole.Modules[i].Nodes
			for _, node := range []int64{math.MinInt64, -1, nodes, nodes + 1, impl.MaxNodes, 1 << 32, math.MaxInt64} {
				broken(func(p *impl.Program) { p.Modules[i].Links[k].From = node })
				broken(func(p *impl.Program) { p.Modules[i].Links[k].To = node })
			}
			modules := []int64{math.MinInt64, -1, 3, impl.MaxModules, 1 << 32, math.MaxInt64}
			if len(l.Act) == 1 {
				modules = append(modules, 1, 2)
			}
			for _, module := range modules {
				broken(func(p *impl.Program) { p.Modules[i].Links[k].Module = module })
			}
			for _, text := range noActs() {
				broken(func(p *impl.Program) { p.Modules[i].Links[k].Act = text })
			}
		}
	}
	for count := impl.MaxModules + 1; count < impl.MaxModules+4; count++ {
		list = append(list, impl.Program{Modules: slices.Repeat(whole.Modules[2:], count)}, impl.Program{Modules: slices.Repeat(program("module 1").Modules, count)})
	}
	broken(func(p *impl.Program) { p.Modules = p.Modules[:2] }) // a link calls the third module
	broken(func(p *impl.Program) { p.Modules = p.Modules[:1] })
	return append(list, impl.Program{}, impl.Program{Modules: []impl.Module{}}, impl.Program{Modules: []impl.Module{{}}}, programOf(ring(), impl.Module{}))
}

// spot is where a run is; open has a byte for each open link.
type spot struct {
	module int64
	node   int64
	open   string
}

func (x spot) after(p impl.Program, choice int64) (spot, byte) {
	if choice == impl.GoBack {
		top := len(x.open) - 1
		module := int64(x.open[top] / 16)
		l := p.Modules[module].Links[x.open[top]%16]
		return spot{module, l.To, x.open[:top]}, l.Act[1]
	}
	l := p.Modules[x.module].Links[choice]
	if len(l.Act) == 1 {
		return spot{x.module, l.To, x.open}, l.Act[0]
	}
	return spot{l.Module, 0, x.open + string([]byte{byte(16*x.module + choice)})}, l.Act[0]
}

// choices returns what can be done at a spot, in ascending order.
func (x spot) choices(p impl.Program) []int64 {
	var list []int64
	for choice := int64(impl.GoBack); choice < impl.MaxLinks; choice++ {
		isBack := choice == impl.GoBack && x.node == exitOf(p, x.module) && x.open != ""
		isLink := choice >= 0 && choice < int64(len(p.Modules[x.module].Links)) && p.Modules[x.module].Links[choice].From == x.node
		if isBack || isLink {
			list = append(list, choice)
		}
	}
	return list
}

func (x spot) place() impl.Place {
	place := impl.Place{Module: x.module, Node: x.node}
	for _, b := range []byte(x.open) {
		place.Open = append(place.Open, []int64{int64(b / 16), int64(b % 16)})
	}
	return place
}

// walked makes choices from the beginning on; it returns false if one cannot be
// made.
func walked(p impl.Program, choices []int64) (string, spot, bool) {
	var text []byte
	var x spot
	for _, choice := range choices {
		if !slices.Contains(x.choices(p), choice) {
			return "", spot{}, false
		}
		next, s := x.after(p, choice)
		x, text = next, append(text, s)
	}
	return string(text), x, true
}

// spelt is a word with all spots to which it leads.
type spelt struct {
	word  string
	spots []spot
}

// longer returns the words with a symbol more, in order.
func (u spelt) longer(p impl.Program) []spelt {
	var list []spelt
	for _, s := range []byte(symbols) {
		next := spelt{word: u.word + string([]byte{s})}
		for _, x := range u.spots {
			for _, choice := range x.choices(p) {
				if to, written := x.after(p, choice); written == s && !slices.Contains(next.spots, to) {
					next.spots = append(next.spots, to)
				}
			}
		}
		if len(next.spots) > 0 {
			list = append(list, next)
		}
	}
	return list
}

// speltUpTo returns all words that runs write from a spot on, in the order of
// words, as long as there are not too many of them.
func speltUpTo(p impl.Program, from spot, most int) []spelt {
	now := []spelt{{"", []spot{from}}}
	list := now
	for range most {
		var next []spelt
		for _, u := range now {
			next = append(next, u.longer(p)...)
		}
		list = append(list, next...)
		now = next
	}
	return list
}

// spotsBehind returns all spots to which a word leads.
func spotsBehind(p impl.Program, from spot, w string) []spot {
	u := spelt{"", []spot{from}}
	for i := range len(w) {
		next := u.longer(p)
		at := slices.IndexFunc(next, func(v spelt) bool { return v.word == w[:i+1] })
		if at < 0 {
			return nil
		}
		u = next[at]
	}
	return u.spots
}

func isComplete(p impl.Program, x spot) bool { return x == spot{0, exitOf(p, 0), ""} }

func takesBySpots(p impl.Program, w string) bool {
	return slices.ContainsFunc(spotsBehind(p, spot{}, w), func(x spot) bool { return isComplete(p, x) })
}

// lead is a spot at a place of a word.
type lead struct {
	at    spot
	place int
}

// firstRunByTrying makes the least choice that leads to an end each time; dead
// has what leads to none.
func firstRunByTrying(p impl.Program, w string, x lead, dead map[lead]bool) ([]int64, bool) {
	if x.place == len(w) {
		return nil, isComplete(p, x.at)
	}
	if dead[x] {
		return nil, false
	}
	for _, choice := range x.at.choices(p) {
		next, s := x.at.after(p, choice)
		if s != w[x.place] {
			continue
		}
		if rest, found := firstRunByTrying(p, w, lead{next, x.place + 1}, dead); found {
			return append([]int64{choice}, rest...), true
		}
	}
	dead[x] = true
	return nil, false
}

// expectProgram checks a program that is returned.
func expectProgram(t *testing.T, name string, want, p impl.Program, code int64) {
	t.Helper()
	if textOfProgram(p) != textOfProgram(want) || code != impl.OK {
		t.Errorf("%s: got the code %d and %v, want %v", name, code, p, want)
	}
}
