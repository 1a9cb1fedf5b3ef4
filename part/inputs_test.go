package part_test

import (
	"fmt"
	"silkworm/api"
	"silkworm/elab"
	"silkworm/lexer"
	"silkworm/lower"
	"silkworm/part"
	"silkworm/syntax"
	"slices"
	"strconv"
	"strings"
	"testing"
)

// netlist is one by a text: nodes one behind the other, all of one bit (but for a cat), and what goes in: "in; not 0; flip 0 1; delay 2 7", the 7 being its time. All inputs are ports.
func netlist(text string) api.Netlist {
	var l api.Netlist
	for i, line := range strings.Split(text, ";") {
		words := strings.Fields(line)
		l.Nodes = append(l.Nodes, node(words[0], numbers(strings.Join(words[1:], " "))...))
		if words[0] == "in" {
			l.Nets = append(l.Nets, i)
		}
	}
	l.Ports = len(l.Nets)
	return l
}

// numbers is a list by a text.
func numbers(text string) []int {
	var out []int
	for _, w := range strings.Fields(text) {
		n, e := strconv.Atoi(w)
		if e != nil {
			panic(w)
		}
		out = append(out, n)
	}
	return out
}

// node is one by its name, of 1 bit; a cat is as wide as it has nodes that go in; a delay's second number is its time.
func node(name string, ins ...int) api.Node {
	n := api.Node{Wide: 1, Ins: ins}
	switch name {
	case "in":
		n.Kind = api.NdIn
	case "const":
		n.Kind, n.Value = api.NdConst, "1"
	case "choose":
		n.Kind = api.NdChoose
	case "same":
		n.Kind = api.NdSame
	case "wide":
		n.Kind = api.NdWide
	case "flip":
		n.Kind = api.NdFlip
	case "delay":
		n.Kind, n.Ins, n.Time = api.NdDelay, ins[:1:1], ins[1]
	default:
		n.Kind, n.Op = api.NdOp, operators()[name]
		if name == "cat" {
			n.Wide = len(ins)
		}
	}
	return n
}

func operators() map[string]int {
	return map[string]int{
		"not": api.OpNot, "neg": api.OpNeg, "log": api.OpLog, "all": api.OpAllR, "any": api.OpAnyR, "odd": api.OpXorR, "part": api.OpPart,
		"add": api.OpAdd, "sub": api.OpSub, "and": api.OpAnd, "or": api.OpOr, "xor": api.OpXor, "shl": api.OpShl, "shr": api.OpShr, "bit": api.OpBit,
		"lt": api.OpLt, "le": api.OpLe, "gt": api.OpGt, "ge": api.OpGe, "eq": api.OpEq, "ne": api.OpNe, "land": api.OpLand, "lor": api.OpLor,
		"cond": api.OpCond, "cat": api.OpCat,
	}
}

// arity is how many go into a node of a name, a cat's being three here.
func arity() map[string]int {
	out := map[string]int{"wide": 1, "same": 2, "choose": 3, "cond": 3, "cat": 3, "flip": 2}
	for name := range operators() {
		switch {
		case out[name] > 0:
		case strings.Contains(" not neg log all any odd part ", " "+name+" "):
			out[name] = 1
		default:
			out[name] = 2
		}
	}
	return out
}

// parts is some by texts: the numbers of the nodes' parts, and the lists of Ahead, as many as there are parts: "0 2; 0 0".
func parts(of, ahead string) api.Parts {
	p := api.Parts{Of: numbers(of)}
	for _, line := range strings.Split(ahead, ";") {
		p.Ahead = append(p.Ahead, numbers(line))
	}
	p.N = len(p.Ahead)
	return p
}

// least is what Ahead is to tell of two parts, by the words of the chapter.
func least(l api.Netlist, of []int, i, j int) int {
	var times []int
	for k, n := range l.Nodes {
		if n.Kind == api.NdDelay && i != j && of[k] == j && of[n.Ins[0]] == i {
			times = append(times, n.Time)
		}
	}
	slices.Sort(times)
	return append(times, 0)[0]
}

// withAhead is so many parts, with what Ahead is to tell of them.
func withAhead(l api.Netlist, of []int, count int) api.Parts {
	p := api.Parts{Of: of, N: count}
	for i := range count {
		p.Ahead = append(p.Ahead, nil)
		for j := range count {
			p.Ahead[i] = append(p.Ahead[i], least(l, of, i, j))
		}
	}
	return p
}

// mayBe tells whether parts may be, by the words of the chapter, one behind the other.
func mayBe(l api.Netlist, p api.Parts) bool {
	if lower.Check(l) != api.OK || p.N < 1 || p.N > 64 || len(p.Of) != len(l.Nodes) || len(p.Ahead) != p.N {
		return false
	}
	for k := range p.N {
		if !slices.Contains(p.Of, k) || len(p.Ahead[k]) != p.N {
			return false
		}
	}
	for k, n := range l.Nodes {
		if p.Of[k] < 0 || p.Of[k] >= p.N {
			return false
		}
		for _, in := range n.Ins {
			if n.Kind != api.NdDelay && (in < 0 || in >= len(p.Of) || p.Of[in] != p.Of[k]) {
				return false
			}
		}
	}
	for i := range p.N {
		for j := range p.N {
			if p.Ahead[i][j] != least(l, p.Of, i, j) {
				return false
			}
		}
	}
	return true
}

// labels is of each node the lowest one that no delay is between: they go down, till each is right.
func labels(l api.Netlist) []int {
	out := make([]int, len(l.Nodes))
	for i := range out {
		out[i] = i
	}
	for again := true; again; {
		again = false
		for i, n := range l.Nodes {
			if n.Kind == api.NdDelay {
				continue
			}
			for _, in := range n.Ins {
				if low := min(out[i], out[in]); out[i] != low || out[in] != low {
					out[i], out[in], again = low, low, true
				}
			}
		}
	}
	return out
}

// checks tells that parts may be, or that they may not.
func checks(t *testing.T, l api.Netlist, p api.Parts, want api.Errno) {
	t.Helper()
	if e := part.Check(l, p); e != want {
		t.Fatalf("%.1000s: %s: %d, not %d", shown(l), told(p), e, want)
	}
}

// parted is the parts of a netlist that may be parted, held against what is said of them.
func parted(t *testing.T, l api.Netlist, n int) api.Parts {
	t.Helper()
	p, e := part.Run(l, n)
	if e != api.OK || p.N > n || !mayBe(l, p) || part.Check(l, p) != api.OK {
		t.Fatalf("%.1000s in %d parts: %s, %d", shown(l), n, told(p), e)
	}
	return p
}

// refused tells that a netlist is not parted, and why.
func refused(t *testing.T, l api.Netlist, n int, want api.Errno) {
	t.Helper()
	p, e := part.Run(l, n)
	if e != want || p.N != 0 || len(p.Of) != 0 || len(p.Ahead) != 0 {
		t.Fatalf("%.1000s in %d parts: %s, %d, not %d", shown(l), n, told(p), e, want)
	}
}

func told(p api.Parts) string {
	return fmt.Sprintf("%d parts %v, ahead %v", p.N, p.Of, p.Ahead)
}

func shown(l api.Netlist) string {
	var out strings.Builder
	fmt.Fprintln(&out, l.Nets, l.Ports)
	for i, n := range l.Nodes {
		fmt.Fprintln(&out, i, n.Kind, n.Op, n.Wide, n.Ins, n.Value, n.Hi, n.Lo, n.Time)
	}
	return out.String()
}

// lowered is the netlist of a source, of which m is the top.
func lowered(t *testing.T, source string) api.Netlist {
	t.Helper()
	l, _ := lexer.Lex(source)
	modules, _ := syntax.Parse(l)
	f, why := elab.Build(modules, "m")
	n, e := lower.Run(f)
	if len(why) > 0 || e != api.OK || n.Ports == 0 {
		t.Fatalf("%s: %v, %d", source, why, e)
	}
	return n
}

// filled is a netlist of as many nodes.
func filled(count int, next func(i int) api.Node) api.Netlist {
	l := api.Netlist{Nodes: make([]api.Node, count)}
	for i := range count {
		l.Nodes[i] = next(i)
		if l.Nodes[i].Kind == api.NdIn {
			l.Nets = append(l.Nets, i)
		}
	}
	l.Ports = len(l.Nets)
	return l
}

type dice uint32

func (d *dice) roll(n int) int {
	*d = *d*1664525 + 1013904223
	return int(*d>>8) % n
}

func (d *dice) one(list ...string) string {
	return list[d.roll(len(list))]
}

// makeNetlist is one without a loop, of nodes of all kinds of one bit, numbered by chance; so many of 100 nodes are delays.
func makeNetlist(d *dice, most, share int) api.Netlist {
	arities, names := arity(), []string{"in", "const", "flip", "not", "and", "wide", "same", "choose", "cond", "lt", "shl", "bit", "log", "part"}
	count := 1 + d.roll(most)
	number := make([]int, count)
	for i := range number {
		k := d.roll(i + 1)
		number[i] = number[k]
		number[k] = i
	}
	l := api.Netlist{Nodes: make([]api.Node, count)}
	for i := range count {
		name := d.one(names...)
		if i == 0 {
			name = d.one("in", "const")
		}
		if d.roll(100) < share {
			l.Nodes[number[i]] = node("delay", d.roll(count), 1+d.roll(9))
			continue
		}
		var ins []int
		for k := range arities[name] {
			in := max(0, i-1-d.roll(1+d.roll(i+1)))
			if name == "flip" && k == 1 {
				in = d.roll(count)
			}
			ins = append(ins, number[in])
		}
		l.Nodes[number[i]] = node(name, ins...)
		if name == "in" || d.roll(4) == 0 {
			l.Nets = append(l.Nets, number[i])
		}
	}
	l.Ports = len(l.Nets)
	return l
}
