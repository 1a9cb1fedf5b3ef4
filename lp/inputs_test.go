package lp_test

import (
	"fmt"
	"silkworm/api"
	"silkworm/elab"
	"silkworm/lexer"
	"silkworm/lower"
	"silkworm/lp"
	"silkworm/part"
	"silkworm/syntax"
	"slices"
	"strconv"
	"strings"
	"testing"
)

const (
	least = -1 << 63
	most  = 1<<63 - 1
)

// netlist is one by a text: nodes one behind the other, "in 1; const 01; not 1 0; delay@2 1 0", each with its width and what goes in; behind | the nets. Without that all nodes are nets.
func netlist(text string) api.Netlist {
	nodes, nets, some := strings.Cut(text, "|")
	var l api.Netlist
	for i, line := range strings.Split(nodes, ";") {
		l.Nodes = append(l.Nodes, node(strings.Fields(line)))
		l.Nets = append(l.Nets, i)
	}
	if some {
		l.Nets = numbers(nets)
	}
	l.Ports = len(l.Nets)
	return l
}

// numbers is a list by a text.
func numbers(text string) []int {
	var out []int
	for _, w := range strings.Fields(text) {
		n, e := strconv.Atoi(w)
		if e != nil {
			panic(w)
		}
		out = append(out, n)
	}
	return out
}

func node(words []string) api.Node {
	name, at, _ := strings.Cut(words[0], "@")
	if name == "const" {
		return api.Node{Kind: api.NdConst, Wide: len(words[1]), Value: words[1]}
	}
	list := numbers(strings.Join(words[1:], " "))
	n := api.Node{Wide: list[0], Ins: list[1:]}
	switch name {
	case "in":
		n.Kind = api.NdIn
	case "flip":
		n.Kind = api.NdFlip
	case "same":
		n.Kind = api.NdSame
	case "wide":
		n.Kind = api.NdWide
	case "delay":
		n.Kind, n.Time = api.NdDelay, numbers(at)[0]
	default:
		n.Kind, n.Op = api.NdOp, map[string]int{"not": api.OpNot, "and": api.OpAnd, "or": api.OpOr, "xor": api.OpXor, "add": api.OpAdd, "cat": api.OpCat}[name]
	}
	return n
}

// withAhead is parts, by those of the nodes, with what Ahead is to tell of them.
func withAhead(l api.Netlist, of []int) api.Parts {
	p := api.Parts{Of: of}
	for _, k := range of {
		p.N = max(p.N, k+1)
	}
	for range p.N {
		p.Ahead = append(p.Ahead, make([]int, p.N))
	}
	for k, n := range l.Nodes {
		if n.Kind != api.NdDelay || of[n.Ins[0]] == of[k] {
			continue
		}
		at := &p.Ahead[of[n.Ins[0]]][of[k]]
		if *at == 0 || n.Time < *at {
			*at = n.Time
		}
	}
	return p
}

// parts is the same, by a text.
func parts(l api.Netlist, of string) api.Parts {
	return withAhead(l, numbers(of))
}

// changes is a list by a text: "3 0 1, 4 0 0" is the net 0 at 3 and at 4.
func changes(text string) []api.Change {
	var out []api.Change
	for _, one := range strings.Split(text, ",") {
		words := strings.Fields(one)
		if len(words) > 0 {
			at := numbers(strings.Join(words[:2], " "))
			out = append(out, api.Change{Time: at[0], Net: at[1], Value: words[2]})
		}
	}
	return out
}

// ev is an event of one bit.
func ev(time, node int, value string, from, seq int) api.Event {
	return api.Event{Time: time, Node: node, Value: value, From: from, Seq: seq}
}

// process is that of a part, all of which may be.
func process(t *testing.T, l api.Netlist, p api.Parts, k int, stim []api.Change, horizon int) *lp.Process {
	t.Helper()
	x, e := lp.New(l, p, k, stim, horizon)
	if e != api.OK || x == nil {
		t.Fatalf("%s%v, %d, %s, %d: %v, %d", brief(shown(l)), p, k, brief(stim), horizon, x, e)
	}
	return x
}

// of is a process by texts.
func of(t *testing.T, nodes, parting string, k int, stim string, horizon int) *lp.Process {
	t.Helper()
	l := netlist(nodes)
	return process(t, l, parts(l, parting), k, changes(stim), horizon)
}

// next tells that a process's next time is this one.
func next(t *testing.T, x *lp.Process, want int) {
	t.Helper()
	if time, ok := x.Next(); time != want || !ok {
		t.Fatalf("Next: %d, %v, not %d", time, ok, want)
	}
}

// rests tells that a process has no next time, and does not go on.
func rests(t *testing.T, x *lp.Process) {
	t.Helper()
	if time, ok := x.Next(); time != 0 || ok {
		t.Fatalf("Next: %d, %v", time, ok)
	}
	done := x.Done()
	if out, e := x.Step(); e != api.ErrNone || len(out) > 0 || x.Done() != done {
		t.Fatalf("Step: %v, %d, %d and then %d", out, e, done, x.Done())
	}
}

// steps tells that a process goes through a time, and which events come of it.
func steps(t *testing.T, x *lp.Process, time int, want ...api.Event) {
	t.Helper()
	next(t, x, time)
	out, e := x.Step()
	if e != api.OK || !slices.Equal(out, want) || x.Done() != time {
		t.Fatalf("Step at %d: %v, %d, done %d, not %v", time, out, e, x.Done(), want)
	}
}

func takes(t *testing.T, x *lp.Process, e api.Event, want api.Errno) {
	t.Helper()
	if got := x.Take(e); got != want {
		t.Fatalf("Take(%v): %d, not %d", e, got, want)
	}
}

func cancels(t *testing.T, x *lp.Process, from, seq int, want bool) {
	t.Helper()
	if got := x.Cancel(from, seq); got != want {
		t.Fatalf("Cancel(%d, %d): %v", from, seq, got)
	}
}

// tells tells which changes there are since a time.
func tells(t *testing.T, x *lp.Process, from int, want string) {
	t.Helper()
	if got := x.Changes(from); !slices.Equal(got, changes(want)) {
		t.Fatalf("Changes(%d): %v, not %s", from, got, want)
	}
}

// firsts tells the first values, _ being the empty text.
func firsts(t *testing.T, x *lp.Process, want string) {
	t.Helper()
	list := strings.Fields(want)
	for i, v := range list {
		list[i] = strings.Trim(v, "_")
	}
	if got := x.First(); !slices.Equal(got, list) {
		t.Fatalf("First: %q, not %q", got, list)
	}
}

// brief is the beginning of what is told.
func brief(v any) string {
	text := fmt.Sprint(v)
	return text[:min(len(text), 600)]
}

func shown(l api.Netlist) string {
	var out strings.Builder
	fmt.Fprintln(&out, l.Nets, l.Ports)
	for i, n := range l.Nodes {
		fmt.Fprintln(&out, i, n.Kind, n.Op, n.Wide, n.Ins, n.Value, n.Hi, n.Lo, n.Time)
	}
	return out.String()
}

// lowered is the netlist of a source, of which m is the top.
func lowered(t *testing.T, source string) api.Netlist {
	t.Helper()
	l, _ := lexer.Lex(source)
	modules, _ := syntax.Parse(l)
	f, why := elab.Build(modules, "m")
	n, e := lower.Run(f)
	if len(why) > 0 || e != api.OK || n.Ports == 0 {
		t.Fatalf("%s: %v, %d", source, why, e)
	}
	return n
}

// parted is a netlist's parts, so many at the most.
func parted(t *testing.T, l api.Netlist, n int) api.Parts {
	t.Helper()
	p, e := part.Run(l, n)
	if e != api.OK {
		t.Fatalf("%s: %d", brief(shown(l)), e)
	}
	return p
}

type dice uint32

func (d *dice) roll(n int) int {
	*d = *d*1664525 + 1013904223
	return int(*d>>8) % n
}

func (d *dice) one(list ...string) string {
	return list[d.roll(len(list))]
}

func (d *dice) vector(wide int, of ...string) string {
	v := ""
	for range wide {
		v += d.one(of...)
	}
	return v
}
