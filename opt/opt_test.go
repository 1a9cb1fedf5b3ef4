package opt_test

import (
	"fmt"
	"reflect"
	"silkworm/api"
	"silkworm/lower"
	"silkworm/opt"
	"slices"
	"strconv"
	"strings"
	"testing"
)

// netlist is one by a text: nodes one behind the other, "in 1; const 01; not 1 0; flip 1 0 1", a width, and what goes in; at the end behind | the nets.
func netlist(text string) api.Netlist {
	nodes, nets, _ := strings.Cut(text, "|")
	var l api.Netlist
	for _, line := range strings.Split(nodes, ";") {
		l.Nodes = append(l.Nodes, node(strings.Fields(line)))
	}
	l.Nets = numbers(strings.Fields(nets))
	l.Ports = len(l.Nets)
	return l
}

func numbers(words []string) []int {
	var out []int
	for _, w := range words {
		n, e := strconv.Atoi(w)
		if e != nil {
			panic(w)
		}
		out = append(out, n)
	}
	return out
}

func node(words []string) api.Node {
	kinds := map[string]int{"in": api.NdIn, "choose": api.NdChoose, "same": api.NdSame, "wide": api.NdWide, "flip": api.NdFlip, "delay": api.NdDelay}
	ops := map[string]int{"not": api.OpNot, "and": api.OpAnd, "or": api.OpOr, "add": api.OpAdd, "cond": api.OpCond, "cat": api.OpCat, "part": api.OpPart, "shl": api.OpShl, "bit": api.OpBit, "lt": api.OpLt, "any": api.OpAnyR}
	if words[0] == "const" {
		return api.Node{Kind: api.NdConst, Wide: len(words[1]), Value: words[1]}
	}
	l := numbers(words[1:])
	n := api.Node{Kind: kinds[words[0]], Wide: l[0]}
	switch words[0] {
	case "delay":
		n.Time, n.Ins = l[1], l[2:]
	case "part":
		n.Hi, n.Lo, n.Ins = l[1], l[2], l[3:]
	default:
		n.Ins = l[1:]
	}
	if n.Kind == 0 {
		n.Kind, n.Op = api.NdOp, ops[words[0]]
	}
	return n
}

// shown is a netlist as text, by which two may be held against each other.
func shown(l api.Netlist) string {
	out := fmt.Sprintln(l.Nets, l.Ports)
	for i, n := range l.Nodes {
		out += fmt.Sprintln(i, n.Kind, n.Op, n.Wide, n.Ins, n.Value, n.Hi, n.Lo, n.Time)
	}
	return out
}

// done is what passes make of a netlist, of which all is told that hangs on no values.
func done(t *testing.T, l api.Netlist, passes ...string) api.Netlist {
	t.Helper()
	m, e := opt.Run(l, passes)
	if e != api.OK {
		t.Fatalf("%v: refused: %d\n%s", passes, e, shown(l))
	}
	if lower.Check(m) != api.OK || m.Ports != l.Ports || len(m.Nodes) > len(l.Nodes) {
		t.Fatalf("%v: of\n%sa netlist that may not be:\n%s", passes, shown(l), shown(m))
	}
	for i, n := range m.Nets {
		was := l.Nodes[l.Nets[i]]
		if m.Nodes[n].Wide != was.Wide || (m.Nodes[n].Kind == api.NdIn) != (was.Kind == api.NdIn) {
			t.Fatalf("%v: of\n%sthe port %d is another one:\n%s", passes, shown(l), i, shown(m))
		}
	}
	if !loops(l) && loops(m) {
		t.Fatalf("%v: of\n%sa loop:\n%s", passes, shown(l), shown(m))
	}
	return m
}

func becomes(t *testing.T, from, to string, passes ...string) {
	t.Helper()
	l := netlist(from)
	if lower.Check(l) != api.OK || lower.Check(netlist(to)) != api.OK {
		t.Fatalf("a test that may not be: %s, %s", from, to)
	}
	if m := done(t, l, passes...); shown(m) != shown(netlist(to)) {
		t.Errorf("%s by %v:\n%snot\n%s", from, passes, shown(m), shown(netlist(to)))
	}
}

func TestOp1Passes(t *testing.T) {
	want := []string{"dead", "fold", "share", "wire"}
	for range 3 {
		got := opt.Passes()
		if !slices.Equal(got, want) {
			t.Errorf("%q", got)
		}
		clear(got)
	}
}

// The chapter's example.
func TestOp1Example(t *testing.T) {
	becomes(t, "in 1; const 1; const 0; and 1 1 2; and 1 0 3 | 0 4", "in 1; const 0; and 1 0 1 | 0 2", "fold", "dead")
}

func TestOp1Dead(t *testing.T) {
	for _, c := range [][2]string{
		{"in 1; in 2 | 0 1", "in 1; in 2 | 0 1"},
		{"in 1; not 1 0; not 1 1 | 0", "in 1 | 0"},
		{"in 1; not 1 0; not 1 1; not 1 1 | 0 3", "in 1; not 1 0; not 1 1 | 0 2"},
		{"not 1 2; not 1 0; in 1 | 2", "in 1 | 0"},
		{"const 0; const 1; const x; in 1; choose 1 3 2 0; not 1 1 | 3 4 4", "const 0; const x; in 1; choose 1 2 1 0 | 2 3 3"},
		{"in 1; flip 2 0 2; not 2 1; flip 1 3 3 | 0 1", "in 1; flip 2 0 2; not 2 1 | 0 1"},
		{"in 1; not 1 0; flip 1 1 0; delay 1 3 4; not 1 2; not 1 3 | 0 3", "in 1; not 1 0; flip 1 1 0; delay 1 3 4; not 1 2 | 0 3"},
		{"in 1; delay 1 3 1; flip 1 2 2; not 1 3 | 0", "in 1 | 0"},
		{"const 1 | ", "in 1 | 0"},
	} {
		if c[0] == "const 1 | " {
			if m := done(t, netlist(c[0]), "dead"); len(m.Nodes)+len(m.Nets) > 0 {
				t.Errorf("without ports: %v", m)
			}
			continue
		}
		becomes(t, c[0], c[1], "dead")
	}
}

func TestOp1Fold(t *testing.T) {
	for _, c := range [][2]string{
		{"const 01; not 2 0 | 1", "const 10 | 0"},
		{"const 0x; const 1z; add 2 0 1; and 2 0 1; or 2 0 1; shl 2 1 4; cat 4 3 0; part 2 2 1 6; bit 1 6 0; lt 1 0 1 | 2 3 4 5 6 7 8 9", "const xx; const 0x; const 1x; const xx; const 0x0x; const x0; const x; const x | 0 1 2 3 4 5 6 7"},
		{"const 1z; const x; const 0z; choose 2 0 0 2; choose 2 1 0 2; cond 2 1 0 0; cond 2 0 0 2; same 1 1 1; same 1 0 4; wide 3 0; wide 1 0; any 1 0 | 3 4 5 6 7 8 9 10 11", "const 1z; const 0z; const 1x; const 1z; const 1; const 0; const 01z; const z; const 1 | 0 1 2 3 4 5 6 7 8"},
		{"not 1 1; not 1 2; not 1 3; const 1 | 0", "const 0 | 0"},
		{"in 1; const 1; not 1 1; and 1 0 2; or 1 3 1; not 1 2 | 0 4 5", "in 1; const 1; const 0; and 1 0 2; or 1 3 1; const 1 | 0 4 5"},
		{"in 2; const 1; flip 2 1 0; flip 2 0 3; not 2 2 | 0 2 3 4", "in 2; const xx; flip 2 0 2; const xx | 0 1 2 3"},
		{"const 0; flip 1 0 1; flip 1 1 0; flip 1 0 0 | 1 2 3", "const x; const x; const x | 0 1 2"},
		{"const x; const z; const 0; delay 1 2 0; delay 1 2 1; delay 1 2 2; delay 1 9 3; not 1 6 | 3 4 5 6 7", "const z; const 0; const x; delay 1 2 0; delay 1 2 1; const x; const x | 2 3 4 5 6"},
		{"const 1; delay 1 1 0; flip 1 1 0; not 1 1; flip 1 0 1 | 2 3 4", "const 1; delay 1 1 0; flip 1 1 0; not 1 1; const x | 2 3 4"},
	} {
		becomes(t, c[0], c[1], "fold", "dead")
	}
}

func TestOp1Share(t *testing.T) {
	for _, c := range [][2]string{
		{"in 1; not 1 0; not 1 0 | 0 1 2", "in 1; not 1 0 | 0 1 1"},
		{"in 1; in 1; not 1 0; not 1 1 | 0 1 2 3", "in 1; in 1; not 1 0; not 1 1 | 0 1 2 3"},
		{"not 1 1; not 1 4; not 1 3; not 1 4; in 1 | 4 0 2", "not 1 1; not 1 2; in 1 | 2 0 0"},
		{"in 1; flip 1 0 0; flip 1 0 0; delay 1 2 1; delay 1 2 2; delay 1 3 1; flip 1 1 0 | 0 1 2 3 4 5 6", "in 1; flip 1 0 0; delay 1 2 1; delay 1 3 1; flip 1 1 0 | 0 1 1 2 2 3 4"},
		{"in 1; not 1 2; flip 1 0 1; not 1 4; flip 1 0 3 | 0 2 4 3", "in 1; not 1 2; flip 1 0 1 | 0 2 2 1"},
		{"in 1; not 1 2; flip 1 0 1; not 1 5; not 1 3; flip 1 0 4 | 0 2 5", "in 1; not 1 2; flip 1 0 1; not 1 5; not 1 3; flip 1 0 4 | 0 2 5"},
		{"in 1; flip 1 0 2; flip 1 0 1 | 0 1 2", "in 1; flip 1 0 1 | 0 1 1"},
		{"in 1; delay 1 1 2; delay 1 2 1 | 0 1 2", "in 1; delay 1 1 2; delay 1 2 1 | 0 1 2"},
		{"const 01; const 01; const 1; const 0x; const 0z | 0 1 2 3 4", "const 01; const 1; const 0x; const 0z | 0 0 1 2 3"},
		{"in 4; part 2 2 1 0; part 2 2 1 0; part 2 1 0 0; part 2 3 2 0; wide 2 0; wide 3 0; wide 2 0 | 0 1 2 3 4 5 6 7", "in 4; part 2 2 1 0; part 2 1 0 0; part 2 3 2 0; wide 2 0; wide 3 0 | 0 1 1 2 3 4 5 4"},
		{"in 1; in 1; cat 2 0 1; cat 2 1 0; cat 2 0 1; cat 3 0 1 0; cat 1 0; choose 1 0 1 0; cond 1 0 1 0; choose 1 0 1 0 | 0 1 2 3 4 5 6 7 8 9", "in 1; in 1; cat 2 0 1; cat 2 1 0; cat 3 0 1 0; cat 1 0; choose 1 0 1 0; cond 1 0 1 0 | 0 1 2 3 2 4 5 6 7 6"},
	} {
		becomes(t, c[0], c[1], "share", "dead")
	}
}

func TestOp1Wire(t *testing.T) {
	for _, c := range [][2]string{
		{"in 2; not 2 0; wide 2 1; wide 3 2; wide 1 1 | 0 2 3 4", "in 2; not 2 0; wide 3 1; wide 1 1 | 0 1 2 3"},
		{"in 2; wide 2 0 | 0 1", "in 2; wide 2 0 | 0 1"},
		{"in 2; wide 2 0; not 2 1 | 0 2", "in 2; not 2 0 | 0 1"},
		{"in 2; wide 2 0; not 2 1; wide 2 1 | 0 1 2 3 3", "in 2; wide 2 0; not 2 0; wide 2 0 | 0 1 2 3 3"},
		{"in 1; in 1; not 1 1; choose 1 0 2 2; choose 1 0 1 1; choose 1 0 1 0 | 0 1 3 4 5", "in 1; in 1; not 1 1; wide 1 1; choose 1 0 1 0 | 0 1 2 3 4"},
		{"in 1; in 1; not 1 1; cond 1 0 2 2; cond 1 0 1 1; cond 1 0 1 0 | 0 1 3 4 5", "in 1; in 1; not 1 1; cond 1 0 1 1; cond 1 0 1 0 | 0 1 2 3 4"},
		{"in 1; not 1 0; wide 1 1; wide 1 2; choose 1 0 3 1; choose 1 4 4 2; cond 1 0 5 3 | 0 6", "in 1; not 1 0 | 0 1"},
		{"in 1; flip 1 0 1; wide 1 1; delay 1 2 4; wide 1 3; flip 1 4 2 | 0 2 4 5", "in 1; flip 1 0 1; delay 1 2 2; flip 1 2 1 | 0 1 2 3"},
		{"in 1; const z; const x; cond 1 0 1 1; cond 1 0 2 2 | 0 3 4", "in 1; const z; const x; cond 1 0 1 1 | 0 3 2"},
		{"in 1; not 1 0; flip 1 0 1; cond 1 0 2 2; flip 1 0 0; cond 1 0 4 4; delay 1 1 4; cond 1 0 6 6 | 0 3 5 7", "in 1; not 1 0; flip 1 0 1; flip 1 0 0; cond 1 0 3 3; delay 1 1 3; cond 1 0 5 5 | 0 2 4 6"},
		{"in 1; const 0z; const 1z; const 00; same 1 0 0; cond 1 1 0 0; cond 1 2 0 0; cond 1 3 0 0; cond 1 4 0 0 | 0 5 6 7 8", "in 1; const 0z; cond 1 1 0 0; wide 1 0; wide 1 0; wide 1 0 | 0 2 3 4 5"},
		{"in 2; part 2 1 0 0; part 1 0 0 0; not 2 1; cat 2 3; cat 2 2 2 | 0 1 2 4 5", "in 2; wide 2 0; part 1 0 0 0; not 2 0; cat 2 2 2 | 0 1 2 3 4"},
	} {
		becomes(t, c[0], c[1], "wire", "dead")
	}
}

// A pass takes away what it puts out of use, and leaves what was so ahead.
func TestOp1OnePass(t *testing.T) {
	for _, c := range [][3]string{
		{"fold", "const 1; not 1 0; not 1 1; in 1; not 1 3; const 0 | 3 2", "const 1; in 1; not 1 1; const 0 | 1 0"},
		{"fold", "const 1; not 1 0; const 0 | 1", "const 0; const 0 | 0"},
		{"fold", "const 1; not 1 0; in 1; and 1 0 2 | 2 1", "const 1; const 0; in 1; and 1 0 2 | 2 1"},
		{"share", "in 1; not 1 0; not 1 0; not 1 2; any 1 1 | 0 3", "in 1; not 1 0; not 1 1; any 1 1 | 0 2"},
		{"share", "in 1; not 1 0; not 1 0; and 1 2 2 | 0 1", "in 1; not 1 0; and 1 1 1 | 0 1"},
		{"share", "in 1; not 1 0; not 1 0 | 0 2", "in 1; not 1 0 | 0 1"},
		{"wire", "in 1; not 1 0; wide 1 1; wide 1 1 | 0 2", "in 1; not 1 0; wide 1 1 | 0 1"},
		{"wire", "in 1; not 1 0; wide 1 1; and 1 2 2 | 0 1", "in 1; not 1 0; wide 1 1; and 1 1 1 | 0 1"},
	} {
		becomes(t, c[1], c[2], c[0])
		dead := done(t, netlist(c[2]), "dead")
		if m := done(t, netlist(c[1]), "dead", c[0]); shown(m) != shown(dead) {
			t.Errorf("%s by dead and %s:\n%snot\n%s", c[1], c[0], shown(m), shown(dead))
		}
	}
}

// reachedBy is the nodes that a port hangs on.
func reachedBy(l api.Netlist) map[int]bool {
	found := map[int]bool{}
	var look func(n int)
	look = func(n int) {
		if !found[n] {
			found[n] = true
			for _, in := range l.Nodes[n].Ins {
				look(in)
			}
		}
	}
	for _, n := range l.Nets {
		look(n)
	}
	return found
}

func TestOp1Refused(t *testing.T) {
	good := netlist("in 1; not 1 0 | 0 1")
	bad := netlist("in 1; not 1 0 | 0 1 0")
	for _, c := range []struct {
		l      api.Netlist
		passes []string
	}{
		{good, []string{""}}, {good, []string{"all"}}, {good, []string{"Dead"}}, {good, []string{"dead "}}, {good, []string{"dead", "fold", "share", "wire", "wires"}}, {good, []string{"x", "dead"}}, {good, []string{"dead,fold"}},
		{bad, nil}, {bad, []string{"dead"}}, {bad, []string{"none"}}, {api.Netlist{Nets: []int{0}, Ports: 1}, nil}, {api.Netlist{Ports: 1}, opt.Passes()}, {netlist("in 1 | "), []string{"dead"}},
	} {
		if m, e := opt.Run(c.l, c.passes); e != api.ErrArg || !reflect.DeepEqual(m, api.Netlist{}) {
			t.Errorf("%v, %q: %v, %d", c.l, c.passes, m, e)
		}
	}
	if m := done(t, api.Netlist{}, opt.Passes()...); len(m.Nodes)+len(m.Nets)+m.Ports > 0 {
		t.Error(m)
	}
	for _, none := range [][]string{nil, {}} {
		if m := done(t, good, none...); !reflect.DeepEqual(m, good) {
			t.Error(m)
		}
	}
}
