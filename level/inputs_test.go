package level_test

import (
	"fmt"
	"silkworm/api"
	"silkworm/elab"
	"silkworm/level"
	"silkworm/lexer"
	"silkworm/lower"
	"silkworm/syntax"
	"slices"
	"strconv"
	"strings"
	"testing"
)

// netlist is one by a text: nodes one behind the other, "in; const; not 0; flip 0 1", and what goes in, all of one bit (but for a cat). All inputs are ports.
func netlist(text string) api.Netlist {
	var l api.Netlist
	for i, line := range strings.Split(text, ";") {
		words := strings.Fields(line)
		l.Nodes = append(l.Nodes, node(words[0], numbers(words[1:])...))
		if words[0] == "in" {
			l.Nets = append(l.Nets, i)
		}
	}
	l.Ports = len(l.Nets)
	return l
}

func numbers(words []string) []int {
	var out []int
	for _, w := range words {
		n, e := strconv.Atoi(w)
		if e != nil {
			panic(w)
		}
		out = append(out, n)
	}
	return out
}

// node is one by its name, of 1 bit; a cat is as wide as it has nodes that go in.
func node(name string, ins ...int) api.Node {
	n := api.Node{Wide: 1, Ins: ins}
	switch name {
	case "in":
		n.Kind = api.NdIn
	case "const":
		n.Kind, n.Value = api.NdConst, "1"
	case "choose":
		n.Kind = api.NdChoose
	case "same":
		n.Kind = api.NdSame
	case "wide":
		n.Kind = api.NdWide
	case "flip":
		n.Kind = api.NdFlip
	case "delay":
		n.Kind, n.Time = api.NdDelay, 1
	default:
		n.Kind, n.Op = api.NdOp, operators()[name]
		if name == "cat" {
			n.Wide = len(ins)
		}
	}
	return n
}

func operators() map[string]int {
	return map[string]int{
		"not": api.OpNot, "neg": api.OpNeg, "log": api.OpLog, "all": api.OpAllR, "any": api.OpAnyR, "odd": api.OpXorR, "part": api.OpPart,
		"add": api.OpAdd, "sub": api.OpSub, "and": api.OpAnd, "or": api.OpOr, "xor": api.OpXor, "shl": api.OpShl, "shr": api.OpShr, "bit": api.OpBit,
		"lt": api.OpLt, "le": api.OpLe, "gt": api.OpGt, "ge": api.OpGe, "eq": api.OpEq, "ne": api.OpNe, "land": api.OpLand, "lor": api.OpLor,
		"cond": api.OpCond, "cat": api.OpCat,
	}
}

// on is what a node hangs on, by the words of the chapter.
func on(n api.Node) []int {
	if n.Kind == api.NdDelay {
		return nil
	}
	if n.Kind == api.NdFlip {
		return n.Ins[:1]
	}
	return n.Ins
}

// levels is what Run is to tell of a netlist that may be: all begin with 0 and go up, till each is right. A node that is higher than there are nodes hangs on a loop.
func levels(l api.Netlist) ([]int, bool) {
	out := make([]int, len(l.Nodes))
	for again := true; again; {
		again = false
		for i, n := range l.Nodes {
			for _, k := range on(n) {
				if out[i] <= out[k] {
					out[i], again = out[k]+1, true
				}
			}
			if out[i] >= len(l.Nodes) {
				return nil, false
			}
		}
	}
	return out, true
}

// isLoop tells whether each of some nodes hangs on the next one, the last on the first, and each is there once.
func isLoop(l api.Netlist, loop []int) bool {
	met := map[int]bool{}
	for i, n := range loop {
		if n < 0 || n >= len(l.Nodes) || met[n] || !slices.Contains(on(l.Nodes[n]), loop[(i+1)%len(loop)]) {
			return false
		}
		met[n] = true
	}
	return len(loop) > 0
}

// levelsAre tells that a netlist has levels, and these.
func levelsAre(t *testing.T, l api.Netlist, want []int) {
	t.Helper()
	mustBe(t, l)
	got, e := level.Run(l)
	if loop := level.Loop(l); e != api.OK || !slices.Equal(got, want) || len(loop) != 0 {
		t.Fatalf("%.1000s: %.500v, %d, the loop %.500v, not %.500v", shown(l), got, e, loop, want)
	}
}

// hasLoop tells that a netlist has a loop.
func hasLoop(t *testing.T, l api.Netlist) []int {
	t.Helper()
	mustBe(t, l)
	got, e := level.Run(l)
	loop := level.Loop(l)
	if e != api.ErrLoop || len(got) != 0 || !isLoop(l, loop) {
		t.Fatalf("%.1000s: %.500v, %d, the loop %.500v", shown(l), got, e, loop)
	}
	return loop
}

// refused tells that a netlist may not be.
func refused(t *testing.T, l api.Netlist) {
	t.Helper()
	got, e := level.Run(l)
	if loop := level.Loop(l); e != api.ErrArg || len(got) != 0 || len(loop) != 0 {
		t.Fatalf("%.1000s: %.500v, %d, the loop %.500v", shown(l), got, e, loop)
	}
}

func mustBe(t *testing.T, l api.Netlist) {
	t.Helper()
	if lower.Check(l) != api.OK {
		t.Fatalf("a test that may not be: %.1000s", shown(l))
	}
}

func shown(l api.Netlist) string {
	var out strings.Builder
	fmt.Fprintln(&out, l.Nets, l.Ports)
	for i, n := range l.Nodes {
		fmt.Fprintln(&out, i, n.Kind, n.Op, n.Wide, n.Ins, n.Value, n.Hi, n.Lo, n.Time)
	}
	return out.String()
}

// lowered is the netlist of a source, of which m is the top.
func lowered(t *testing.T, source string) api.Netlist {
	t.Helper()
	l, _ := lexer.Lex(source)
	modules, _ := syntax.Parse(l)
	f, why := elab.Build(modules, "m")
	n, e := lower.Run(f)
	if len(why) > 0 || e != api.OK || n.Ports == 0 {
		t.Fatalf("%s: %v, %d", source, why, e)
	}
	return n
}

type dice uint32

func (d *dice) roll(n int) int {
	*d = *d*1664525 + 1013904223
	return int(*d>>8) % n
}

func (d *dice) one(list ...string) string {
	return list[d.roll(len(list))]
}
