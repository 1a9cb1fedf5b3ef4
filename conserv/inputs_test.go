package conserv_test

import (
	"fmt"
	"silkworm/api"
	"silkworm/conserv"
	"silkworm/elab"
	"silkworm/engine"
	"silkworm/lexer"
	"silkworm/lower"
	"silkworm/part"
	"silkworm/syntax"
	"slices"
	"strconv"
	"strings"
	"testing"
)

const (
	least = -1 << 63
	most  = 1<<63 - 1
)

// netlist is one by a text: nodes one behind the other, "in 1; const 01; not 1 0; delay@2 1 0", each with its width and what goes in; behind | the nets. Without that all nodes are nets.
func netlist(text string) api.Netlist {
	nodes, nets, some := strings.Cut(text, "|")
	var l api.Netlist
	for i, line := range strings.Split(nodes, ";") {
		l.Nodes = append(l.Nodes, node(strings.Fields(line)))
		l.Nets = append(l.Nets, i)
	}
	if some {
		l.Nets = numbers(nets)
	}
	l.Ports = len(l.Nets)
	return l
}

// numbers is a list by a text.
func numbers(text string) []int {
	var out []int
	for _, w := range strings.Fields(text) {
		n, e := strconv.Atoi(w)
		if e != nil {
			panic(w)
		}
		out = append(out, n)
	}
	return out
}

func node(words []string) api.Node {
	name, at, _ := strings.Cut(words[0], "@")
	if name == "const" {
		return api.Node{Kind: api.NdConst, Wide: len(words[1]), Value: words[1]}
	}
	list := numbers(strings.Join(words[1:], " "))
	n := api.Node{Wide: list[0], Ins: list[1:]}
	switch name {
	case "in":
		n.Kind = api.NdIn
	case "flip":
		n.Kind = api.NdFlip
	case "delay":
		n.Kind, n.Time = api.NdDelay, numbers(at)[0]
	default:
		n.Kind, n.Op = api.NdOp, map[string]int{"not": api.OpNot, "and": api.OpAnd, "xor": api.OpXor}[name]
	}
	return n
}

// withAhead is parts, by those of the nodes, with what Ahead is to tell of them.
func withAhead(l api.Netlist, of []int) api.Parts {
	p := api.Parts{Of: of}
	for _, k := range of {
		p.N = max(p.N, k+1)
	}
	for range p.N {
		p.Ahead = append(p.Ahead, make([]int, p.N))
	}
	for k, n := range l.Nodes {
		if n.Kind != api.NdDelay || of[n.Ins[0]] == of[k] {
			continue
		}
		at := &p.Ahead[of[n.Ins[0]]][of[k]]
		if *at == 0 || n.Time < *at {
			*at = n.Time
		}
	}
	return p
}

// parts is the same, by a text.
func parts(l api.Netlist, of string) api.Parts {
	return withAhead(l, numbers(of))
}

// changes is a list by a text: "3 0 1, 4 0 0" is the net 0 at 3 and at 4.
func changes(text string) []api.Change {
	var out []api.Change
	for _, one := range strings.Split(text, ",") {
		words := strings.Fields(one)
		if len(words) > 0 {
			at := numbers(strings.Join(words[:2], " "))
			out = append(out, api.Change{Time: at[0], Net: at[1], Value: words[2]})
		}
	}
	return out
}

// picks is a script by a text: "1 0, 3 -1" are two picks.
func picks(text string) []api.Pick {
	var out []api.Pick
	for _, one := range strings.Split(text, ",") {
		if n := numbers(one); len(n) > 0 {
			out = append(out, api.Pick{Kind: n[0], N: n[1]})
		}
	}
	return out
}

// toggles is changes of nets of one bit, one of each of them a time, from 0 on.
func toggles(count int, nets ...int) []api.Change {
	var list []api.Change
	for i := range count {
		for _, net := range nets {
			list = append(list, api.Change{Time: i, Net: net, Value: []string{"0", "1"}[i%2]})
		}
	}
	return list
}

// sim is what a call is handed, but for the script.
type sim struct {
	l       api.Netlist
	p       api.Parts
	stim    []api.Change
	horizon int
}

// simOf is one by texts.
func simOf(nodes, of string, stim []api.Change, horizon int) sim {
	l := netlist(nodes)
	return sim{l: l, p: parts(l, of), stim: stim, horizon: horizon}
}

func (s sim) run(script []api.Pick) (api.Wave, bool, api.Errno) {
	return conserv.Run(s.l, s.p, s.stim, s.horizon, script)
}

func (s sim) String() string {
	return fmt.Sprint(brief(shown(s.l)), " ", brief(s.p), " ", brief(s.stim), " ", s.horizon)
}

// rounds is so many of them.
func (s sim) rounds(count int) []api.Pick {
	return slices.Repeat(conserv.Round(s.p), count)
}

// enough is as many rounds as make it whole.
func (s sim) enough(t *testing.T) []api.Pick {
	t.Helper()
	n, e := conserv.Rounds(s.p, s.horizon)
	if e != api.OK {
		t.Fatalf("%v: %d", s, e)
	}
	return s.rounds(n)
}

// ahead is the netlist's waveform ahead of a time, by layer 12.
func (s sim) ahead(t *testing.T, end int) api.Wave {
	t.Helper()
	w, e := engine.Run(s.l, s.stim, max(0, end-1))
	if e != api.OK {
		t.Fatalf("%v, %d: %d", s, end, e)
	}
	if end <= 0 {
		w.List = nil
	}
	return w
}

// answers tells that a script's waveform is that ahead of a time, whether it is whole, and the error.
func (s sim) answers(t *testing.T, script []api.Pick, end int, whole bool, want api.Errno) {
	t.Helper()
	w, all, e := s.run(script)
	if right := s.ahead(t, end); !same(w, right) || all != whole || e != want {
		t.Fatalf("%v: %d, %s: %d, %s, %v, %d, not %d, %s, %v, %d", s, len(script), brief(script), len(w.List), brief(w), all, e, len(right.List), brief(right), whole, want)
	}
}

// ends tells of each pick ahead of which time the waveform is told behind it: "1 0 = 0, 3 0 = 2".
func (s sim) ends(t *testing.T, text string) {
	t.Helper()
	s.answers(t, nil, 0, false, api.OK)
	var script []api.Pick
	for _, one := range strings.Split(text, ",") {
		pick, end, _ := strings.Cut(one, "=")
		script = append(script, picks(pick)...)
		time := numbers(end)[0]
		s.answers(t, script, time, time > s.horizon, api.OK)
	}
}

func same(a, b api.Wave) bool {
	return slices.Equal(a.Names, b.Names) && slices.Equal(a.Wides, b.Wides) && slices.Equal(a.First, b.First) && slices.Equal(a.List, b.List)
}

// brief is the beginning of what is told.
func brief(v any) string {
	text := fmt.Sprint(v)
	return text[:min(len(text), 600)]
}

func shown(l api.Netlist) string {
	var out strings.Builder
	fmt.Fprintln(&out, l.Nets, l.Ports)
	for i, n := range l.Nodes {
		fmt.Fprintln(&out, i, n.Kind, n.Op, n.Wide, n.Ins, n.Value, n.Hi, n.Lo, n.Time)
	}
	return out.String()
}

// lowered is the netlist of a source, of which m is the top.
func lowered(t *testing.T, source string) api.Netlist {
	t.Helper()
	l, _ := lexer.Lex(source)
	modules, _ := syntax.Parse(l)
	f, why := elab.Build(modules, "m")
	n, e := lower.Run(f)
	if len(why) > 0 || e != api.OK || n.Ports == 0 {
		t.Fatalf("%s: %v, %d", source, why, e)
	}
	return n
}

// parted is a netlist's parts, so many at the most.
func parted(t *testing.T, l api.Netlist, n int) api.Parts {
	t.Helper()
	p, e := part.Run(l, n)
	if e != api.OK {
		t.Fatalf("%s: %d", brief(shown(l)), e)
	}
	return p
}

type dice uint32

func (d *dice) roll(n int) int {
	*d = *d*1664525 + 1013904223
	return int(*d>>8) % n
}

func (d *dice) one(list ...string) string {
	return list[d.roll(len(list))]
}

func (d *dice) vector(wide int, of ...string) string {
	v := ""
	for range wide {
		v += d.one(of...)
	}
	return v
}

// sim is a made-up one: its parts are those of layer 13.
func (d *dice) sim(t *testing.T, islands, most, last int) sim {
	t.Helper()
	l := makeNetlist(d, 1+d.roll(islands), most)
	return sim{l: l, p: parted(t, l, 1+d.roll(islands+1)), stim: makeStimulus(d, l, last), horizon: d.roll(last + 4)}
}

// script is a made-up one: most of its picks do something.
func (d *dice) script(s sim, count int) []api.Pick {
	var out []api.Pick
	for range count {
		p := api.Pick{Kind: 1 + d.roll(3), N: d.roll(s.p.N * s.p.N)}
		switch d.roll(30) {
		case 0:
			p.Kind = []int{0, -1, 4, least, most}[d.roll(5)]
		case 1:
			p.N = []int{-1, -2, -3, least, least + 1, most, most - 1, -1 << 32}[d.roll(8)]
		case 2:
			out = append(out, conserv.Round(s.p)...)
		}
		out = append(out, p)
	}
	return out
}
