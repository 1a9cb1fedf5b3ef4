package warp_test

import (
	"fmt"
	"silkworm/api"
	"silkworm/elab"
	"silkworm/engine"
	"silkworm/lexer"
	"silkworm/lower"
	"silkworm/part"
	"silkworm/syntax"
	"silkworm/warp"
	"slices"
	"strconv"
	"strings"
	"testing"
)

const (
	least = -1 << 63
	most  = 1<<63 - 1
)

// netlist is one by a text: nodes one behind the other, "in 1; const 01; not 1 0; delay@2 1 0", each with its width and what goes in; behind | the nets. Without that all nodes are nets.
func netlist(text string) api.Netlist {
	nodes, nets, some := strings.Cut(text, "|")
	var l api.Netlist
	for i, line := range strings.Split(nodes, ";") {
		l.Nodes = append(l.Nodes, node(strings.Fields(line)))
		l.Nets = append(l.Nets, i)
	}
	if some {
		l.Nets = numbers(nets)
	}
	l.Ports = len(l.Nets)
	return l
}

// numbers is a list by a text.
func numbers(text string) []int {
	var out []int
	for _, w := range strings.Fields(text) {
		n, e := strconv.Atoi(w)
		if e != nil {
			panic(w)
		}
		out = append(out, n)
	}
	return out
}

func node(words []string) api.Node {
	name, at, _ := strings.Cut(words[0], "@")
	if name == "const" {
		return api.Node{Kind: api.NdConst, Wide: len(words[1]), Value: words[1]}
	}
	list := numbers(strings.Join(words[1:], " "))
	n := api.Node{Wide: list[0], Ins: list[1:]}
	switch name {
	case "in":
		n.Kind = api.NdIn
	case "flip":
		n.Kind = api.NdFlip
	case "delay":
		n.Kind, n.Time = api.NdDelay, numbers(at)[0]
	default:
		n.Kind, n.Op = api.NdOp, map[string]int{"not": api.OpNot, "and": api.OpAnd, "xor": api.OpXor}[name]
	}
	return n
}

// withAhead is parts, by those of the nodes, with what Ahead is to tell of them.
func withAhead(l api.Netlist, of []int) api.Parts {
	p := api.Parts{Of: of}
	for _, k := range of {
		p.N = max(p.N, k+1)
	}
	for range p.N {
		p.Ahead = append(p.Ahead, make([]int, p.N))
	}
	for k, n := range l.Nodes {
		if n.Kind != api.NdDelay || of[n.Ins[0]] == of[k] {
			continue
		}
		at := &p.Ahead[of[n.Ins[0]]][of[k]]
		if *at == 0 || n.Time < *at {
			*at = n.Time
		}
	}
	return p
}

// parts is the same, by a text.
func parts(l api.Netlist, of string) api.Parts {
	return withAhead(l, numbers(of))
}

// changes is a list by a text: "3 0 1, 4 0 0" is the net 0 at 3 and at 4.
func changes(text string) []api.Change {
	var out []api.Change
	for _, one := range strings.Split(text, ",") {
		words := strings.Fields(one)
		if len(words) > 0 {
			at := numbers(strings.Join(words[:2], " "))
			out = append(out, api.Change{Time: at[0], Net: at[1], Value: words[2]})
		}
	}
	return out
}

// picks is a script by a text: "1 0, 3 -1" are two picks.
func picks(text string) []api.Pick {
	var out []api.Pick
	for _, one := range strings.Split(text, ",") {
		if n := numbers(one); len(n) > 0 {
			out = append(out, api.Pick{Kind: n[0], N: n[1]})
		}
	}
	return out
}

// toggles is changes of nets of one bit, one of each of them a time, from 0 on.
func toggles(count int, nets ...int) []api.Change {
	var list []api.Change
	for i := range count {
		for _, net := range nets {
			list = append(list, api.Change{Time: i, Net: net, Value: []string{"0", "1"}[i%2]})
		}
	}
	return list
}

// sim is what a call is handed, but for the script.
type sim struct {
	l       api.Netlist
	p       api.Parts
	stim    []api.Change
	horizon int
	saved   int
}

// simOf is one by texts, with as many states as may be saved.
func simOf(nodes, of string, stim []api.Change, horizon int) sim {
	l := netlist(nodes)
	return sim{l: l, p: parts(l, of), stim: stim, horizon: horizon, saved: api.MaxQueue}
}

// with is the same with so many states saved.
func (s sim) with(saved int) sim {
	s.saved = saved
	return s
}

func (s sim) run(script []api.Pick) (api.Wave, bool, []int, api.Errno) {
	return warp.Run(s.l, s.p, s.stim, s.horizon, s.saved, script)
}

func (s sim) String() string {
	return fmt.Sprint(brief(shown(s.l)), " ", brief(s.p), " ", brief(s.stim), " ", s.horizon, " ", s.saved)
}

// rounds is so many of them.
func (s sim) rounds(count int) []api.Pick {
	return slices.Repeat(warp.Round(s.p), count)
}

// enough is as many rounds as make it whole.
func (s sim) enough(t *testing.T) []api.Pick {
	t.Helper()
	n, e := warp.Rounds(s.p, s.horizon)
	if e != api.OK {
		t.Fatalf("%v: %d", s, e)
	}
	return s.rounds(n)
}

// ahead is the netlist's waveform ahead of a time, by layer 12.
func (s sim) ahead(t *testing.T, end int) api.Wave {
	t.Helper()
	w, e := engine.Run(s.l, s.stim, max(0, end-1))
	if e != api.OK {
		t.Fatalf("%v, %d: %d", s, end, e)
	}
	if end <= 0 {
		w.List = nil
	}
	return w
}

// answers tells that so many picks of a script are done, the waveform that is told being that ahead of the last GVT, which is a time; whether it is whole, and the error.
func (s sim) answers(t *testing.T, script []api.Pick, done, end int, want api.Errno) {
	t.Helper()
	w, whole, times, e := s.run(script)
	last := 0
	for _, time := range times {
		if time < last {
			t.Fatalf("%v: %s: the GVT goes down: %s", s, brief(script), brief(times))
		}
		last = time
	}
	all := end > s.horizon && want == api.OK
	if right := s.ahead(t, end); !same(w, right) || whole != all || len(times) != done || last != end || e != want {
		t.Fatalf("%v: %d, %s: %d, %s, %v, %d, %s, %d, not %d, %s, %v, %d, %d, %d", s, len(script), brief(script), len(w.List), brief(w), whole, len(times), brief(times), e, len(right.List), brief(right), all, done, end, want)
	}
}

// does tells that a script is done whole, up to a GVT.
func (s sim) does(t *testing.T, script []api.Pick, end int) {
	t.Helper()
	s.answers(t, script, len(script), end, api.OK)
}

// stops tells that a script is not done from a pick on, and why not.
func (s sim) stops(t *testing.T, script []api.Pick, done, end int, want api.Errno) {
	t.Helper()
	s.does(t, script[:done], end)
	s.answers(t, script[:done+1], done, end, want)
	s.answers(t, script, done, end, want)
}

// ends tells of each pick the GVT behind it: "1 0 = 0, 3 0 = 2".
func (s sim) ends(t *testing.T, text string) {
	t.Helper()
	s.does(t, nil, 0)
	var script []api.Pick
	var want []int
	for _, one := range strings.Split(text, ",") {
		pick, end, _ := strings.Cut(one, "=")
		script = append(script, picks(pick)...)
		want = append(want, numbers(end)...)
		_, _, times, _ := s.run(script)
		if !slices.Equal(times, want) {
			t.Fatalf("%v: %v: %v, not %v", s, script, times, want)
		}
		s.does(t, script, want[len(want)-1])
	}
}

func same(a, b api.Wave) bool {
	return slices.Equal(a.Names, b.Names) && slices.Equal(a.Wides, b.Wides) && slices.Equal(a.First, b.First) && slices.Equal(a.List, b.List)
}

// brief is the beginning of what is told.
func brief(v any) string {
	text := fmt.Sprint(v)
	return text[:min(len(text), 600)]
}

func shown(l api.Netlist) string {
	var out strings.Builder
	fmt.Fprintln(&out, l.Nets, l.Ports)
	for i, n := range l.Nodes {
		fmt.Fprintln(&out, i, n.Kind, n.Op, n.Wide, n.Ins, n.Value, n.Hi, n.Lo, n.Time)
	}
	return out.String()
}

// lowered is the netlist of a source, of which m is the top.
func lowered(t *testing.T, source string) api.Netlist {
	t.Helper()
	l, _ := lexer.Lex(source)
	modules, _ := syntax.Parse(l)
	f, why := elab.Build(modules, "m")
	n, e := lower.Run(f)
	if len(why) > 0 || e != api.OK || n.Ports == 0 {
		t.Fatalf("%s: %v, %d", source, why, e)
	}
	return n
}

// parted is a netlist's parts, so many at the most.
func parted(t *testing.T, l api.Netlist, n int) api.Parts {
	t.Helper()
	p, e := part.Run(l, n)
	if e != api.OK {
		t.Fatalf("%s: %d", brief(shown(l)), e)
	}
	return p
}

type dice uint32

func (d *dice) roll(n int) int {
	*d = *d*1664525 + 1013904223
	return int(*d>>8) % n
}

func (d *dice) one(list ...string) string {
	return list[d.roll(len(list))]
}

func (d *dice) vector(wide int, of ...string) string {
	v := ""
	for range wide {
		v += d.one(of...)
	}
	return v
}

// sim is a made-up one: its parts are those of layer 13.
func (d *dice) sim(t *testing.T, islands, most, last int) sim {
	t.Helper()
	l := makeNetlist(d, 1+d.roll(islands), most)
	return sim{l: l, p: parted(t, l, 1+d.roll(islands+1)), stim: makeStimulus(d, l, last), horizon: d.roll(last + 4), saved: api.MaxQueue}
}

// busy is a made-up one of 3 to 6 parts that have much to tell each other: each has two inputs, delays of what others tell, and two gates over all of these, which are known soon.
func (d *dice) busy() sim {
	const size = 7
	count := 3 + d.roll(4)
	var s sim
	var of []int
	for k := range count {
		at := size * k
		from := func() int {
			return size*((k+1+d.roll(count-1))%count) + 5 + d.roll(2)
		}
		s.l.Nodes = append(s.l.Nodes, node([]string{"in", "1"}), node([]string{"in", "1"}),
			api.Node{Kind: api.NdDelay, Wide: 1, Ins: []int{from()}, Time: 1 + d.roll(4)}, api.Node{Kind: api.NdDelay, Wide: 1, Ins: []int{from()}, Time: 1 + d.roll(4)},
			api.Node{Kind: api.NdOp, Op: api.OpAnd, Wide: 1, Ins: []int{at + 1, at + 2}}, api.Node{Kind: api.NdOp, Op: api.OpXor, Wide: 1, Ins: []int{at, at + 4}}, api.Node{Kind: api.NdOp, Op: api.OpAnd, Wide: 1, Ins: []int{at, at + 3}})
		of = append(of, slices.Repeat([]int{k}, size)...)
	}
	for n := range s.l.Nodes {
		s.l.Nets = append(s.l.Nets, n)
	}
	s.l.Ports, s.p, s.horizon, s.saved = len(s.l.Nets), withAhead(s.l, of), 8+d.roll(10), api.MaxQueue
	for time := range 14 {
		for n, node := range s.l.Nodes {
			if node.Kind == api.NdIn && (time == 0 || d.roll(3) == 0) {
				s.stim = append(s.stim, api.Change{Time: time, Net: n, Value: d.one("0", "1")})
			}
		}
	}
	return s
}

// script is a made-up one: most of its picks do something. How often processes go ahead, and how often all messages come, is made up, too: with few of the latter messages stay under way for long.
func (d *dice) script(s sim, count int) []api.Pick {
	var out []api.Pick
	ahead, all := 2+d.roll(9), []int{0, 0, 1, 1, 4}[d.roll(5)]
	for range count {
		p := api.Pick{Kind: 2, N: d.roll(720)}
		switch n := d.roll(12); {
		case n < ahead:
			p.Kind = 1
		case n == 11 && d.roll(4) < all:
			p.Kind = 3
		}
		switch d.roll(60) {
		case 0:
			p.Kind = []int{0, -1, 4, least, most}[d.roll(5)]
		case 1:
			p.N = []int{-1, -2, -3, least, least + 1, most, most - 1, -1 << 32}[d.roll(8)]
		case 2:
			if all > 0 {
				out = append(out, warp.Round(s.p)...)
			}
		}
		out = append(out, p)
	}
	return out
}
