package engine_test

import (
	"fmt"
	"silkworm/api"
	"silkworm/elab"
	"silkworm/engine"
	"silkworm/lexer"
	"silkworm/lower"
	"silkworm/syntax"
	"slices"
	"strconv"
	"strings"
	"testing"
)

// netlist is one by a text: nodes one behind the other, "in 1; const 01; not 1 0; delay@2 1 0; part@1:0 2 0", each with its width and what goes in; behind | the nets. Without that all nodes are nets.
func netlist(text string) api.Netlist {
	nodes, nets, some := strings.Cut(text, "|")
	var l api.Netlist
	for i, line := range strings.Split(nodes, ";") {
		l.Nodes = append(l.Nodes, node(strings.Fields(line)))
		l.Nets = append(l.Nets, i)
	}
	if some {
		l.Nets = numbers(strings.Fields(nets))
	}
	l.Ports = len(l.Nets)
	return l
}

func numbers(words []string) []int {
	var out []int
	for _, w := range words {
		n, e := strconv.Atoi(w)
		if e != nil {
			panic(w)
		}
		out = append(out, n)
	}
	return out
}

func node(words []string) api.Node {
	name, at, _ := strings.Cut(words[0], "@")
	if name == "const" {
		return api.Node{Kind: api.NdConst, Wide: len(words[1]), Value: words[1]}
	}
	list := numbers(words[1:])
	n := api.Node{Kind: kinds()[name], Wide: list[0], Ins: list[1:]}
	switch {
	case name == "delay":
		n.Time = numbers([]string{at})[0]
	case name == "part":
		n.Kind, n.Op = api.NdOp, api.OpPart
		ends := numbers(strings.Split(at, ":"))
		n.Hi, n.Lo = ends[0], ends[1]
	case n.Kind == 0:
		n.Kind, n.Op = api.NdOp, operators()[name]
	}
	return n
}

func kinds() map[string]int {
	return map[string]int{"in": api.NdIn, "choose": api.NdChoose, "same": api.NdSame, "wide": api.NdWide, "flip": api.NdFlip, "delay": api.NdDelay}
}

func operators() map[string]int {
	return map[string]int{
		"not": api.OpNot, "neg": api.OpNeg, "log": api.OpLog, "all": api.OpAllR, "any": api.OpAnyR, "odd": api.OpXorR,
		"add": api.OpAdd, "sub": api.OpSub, "and": api.OpAnd, "or": api.OpOr, "xor": api.OpXor, "shl": api.OpShl, "shr": api.OpShr, "bit": api.OpBit,
		"lt": api.OpLt, "le": api.OpLe, "gt": api.OpGt, "ge": api.OpGe, "eq": api.OpEq, "ne": api.OpNe, "land": api.OpLand, "lor": api.OpLor,
		"cond": api.OpCond, "cat": api.OpCat,
	}
}

// changes is a list by a text: "3 0 1, 4 0 0" is the net 0 at 3 and at 4.
func changes(text string) []api.Change {
	var out []api.Change
	for _, part := range strings.Split(text, ",") {
		words := strings.Fields(part)
		if len(words) > 0 {
			at := numbers(words[:2])
			out = append(out, api.Change{Time: at[0], Net: at[1], Value: words[2]})
		}
	}
	return out
}

// wave is the first values and, behind |, the changes of a waveform.
func wave(text string) ([]string, []api.Change) {
	first, list, _ := strings.Cut(text, "|")
	return strings.Fields(first), changes(list)
}

// run is the waveform of what may be run, with all that is promised of its nets.
func run(t *testing.T, l api.Netlist, stim []api.Change, horizon int) api.Wave {
	t.Helper()
	if lower.Check(l) != api.OK {
		t.Fatalf("a test that may not be: %s", brief(shown(l)))
	}
	if e := engine.Check(l, stim, horizon); e != api.OK {
		t.Fatalf("%s, %s, %d: Check %d", brief(shown(l)), brief(stim), horizon, e)
	}
	w, e := engine.Run(l, stim, horizon)
	if e != api.OK {
		t.Fatalf("%s, %s, %d: %d", brief(shown(l)), brief(stim), horizon, e)
	}
	if len(w.First) != l.Ports || len(w.Wides) != l.Ports || len(w.Names) != l.Ports || strings.Join(w.Names, "") != "" {
		t.Fatalf("%s: %s, %s, %s", brief(shown(l)), brief(w.First), brief(w.Wides), brief(w.Names))
	}
	for i, n := range l.Nets {
		if w.Wides[i] != l.Nodes[n].Wide || len(w.First[i]) != w.Wides[i] {
			t.Fatalf("%s: the net %d, %d, %q", brief(shown(l)), i, w.Wides[i], w.First[i])
		}
	}
	return w
}

// tells holds a waveform against what is written down, and against what is told once more.
func tells(t *testing.T, l api.Netlist, stim []api.Change, horizon int, text string) {
	t.Helper()
	first, list := wave(text)
	w := run(t, l, stim, horizon)
	if !slices.Equal(w.First, first) || !slices.Equal(w.List, list) {
		t.Errorf("%s%v, %d:\n%v %v, not\n%v %v", shown(l), stim, horizon, w.First, w.List, first, list)
	}
	if horizon < 100 {
		again(t, l, stim, horizon)
	}
}

// again holds a waveform against what is told once more.
func again(t *testing.T, l api.Netlist, stim []api.Change, horizon int) api.Wave {
	t.Helper()
	w := run(t, l, stim, horizon)
	first, list := once(l, stim, horizon)
	if !slices.Equal(w.First, first) || !slices.Equal(w.List, list) {
		t.Fatalf("%s%v, %d:\n%v %v, and once more\n%v %v", shown(l), stim, horizon, w.First, w.List, first, list)
	}
	return w
}

// refused tells that a run is refused, by Check too if that looks at it, with nothing beside.
func refused(t *testing.T, l api.Netlist, stim []api.Change, horizon int, want api.Errno) {
	t.Helper()
	early := want
	if want == api.ErrQueue || want == api.ErrFull {
		early = api.OK
	}
	if e := engine.Check(l, stim, horizon); e != early {
		t.Errorf("%s, %s, %d: Check %d, not %d", brief(shown(l)), brief(stim), horizon, e, early)
	}
	w, e := engine.Run(l, stim, horizon)
	if e != want || len(w.Names)+len(w.Wides)+len(w.First)+len(w.List) != 0 {
		t.Errorf("%s, %s, %d: %d changes, %d, not %d", brief(shown(l)), brief(stim), horizon, len(w.List), e, want)
	}
}

// brief is the beginning of what is told.
func brief(v any) string {
	text := fmt.Sprint(v)
	return text[:min(len(text), 600)]
}

func shown(l api.Netlist) string {
	var out strings.Builder
	fmt.Fprintln(&out, l.Nets, l.Ports)
	for i, n := range l.Nodes {
		fmt.Fprintln(&out, i, n.Kind, n.Op, n.Wide, n.Ins, n.Value, n.Hi, n.Lo, n.Time)
	}
	return out.String()
}

// lowered is the netlist of a source, of which m is the top.
func lowered(t *testing.T, source string) api.Netlist {
	t.Helper()
	l, _ := lexer.Lex(source)
	modules, _ := syntax.Parse(l)
	f, why := elab.Build(modules, "m")
	n, e := lower.Run(f)
	if len(why) > 0 || e != api.OK || n.Ports == 0 {
		t.Fatalf("%s: %v, %d", source, why, e)
	}
	return n
}

type dice uint32

func (d *dice) roll(n int) int {
	*d = *d*1664525 + 1013904223
	return int(*d>>8) % n
}

func (d *dice) one(list ...string) string {
	return list[d.roll(len(list))]
}

func (d *dice) vector(wide int, of ...string) string {
	v := ""
	for range wide {
		v += d.one(of...)
	}
	return v
}
