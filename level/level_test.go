package level_test

import (
	"silkworm/api"
	"slices"
	"strings"
	"testing"
)

func TestLv1Levels(t *testing.T) {
	for text, want := range map[string][]int{
		"in":                                     {0},
		"const":                                  {0},
		"const; const; in; in; not 0; not 3":     {0, 0, 0, 0, 1, 1},
		"in; not 0; not 1; not 2":                {0, 1, 2, 3},
		"not 1; not 2; not 3; in":                {3, 2, 1, 0},
		"in; not 0; not 1; and 0 2":              {0, 1, 2, 3},
		"in; not 0; not 1; and 2 0":              {0, 1, 2, 3},
		"in; not 0; not 1; and 0 1":              {0, 1, 2, 2},
		"in; and 0 0; and 1 1; and 2 2":          {0, 1, 2, 3},
		"in; not 0; not 0; and 1 2; and 1 3":     {0, 1, 1, 2, 3},
		"in; cond 0 2 3; not 0; not 2":           {0, 3, 1, 2},
		"in; cat 0 3 0; wide 1; not 0; any 1":    {0, 2, 3, 1, 3},
		"in; delay 0":                            {0, 0},
		"in; not 0; not 1; delay 2; not 3":       {0, 1, 2, 0, 1},
		"delay 0":                                {0},
		"delay 1; not 0":                         {0, 1},
		"delay 1; delay 0":                       {0, 0},
		"in; flip 0 0":                           {0, 1},
		"in; flip 0 1":                           {0, 1},
		"in; flip 0 2; not 1":                    {0, 1, 2},
		"in; not 0; not 1; flip 0 2":             {0, 1, 2, 1},
		"in; not 0; not 1; flip 2 0; flip 3 2":   {0, 1, 2, 3, 4},
		"in; flip 0 2; flip 0 1; and 1 2":        {0, 1, 1, 2},
		"in; in; flip 0 1; flip 2 3; flip 3 4":   {0, 0, 1, 2, 3},
		"const; flip 0 2; xor 1 3; delay 2":      {0, 1, 2, 0},
		"in; flip 2 1; delay 3; not 1":           {0, 1, 0, 2},
		"in; choose 0 2 0; flip 0 1; same 1 2":   {0, 2, 1, 3},
		"in; not 0; and 1 0; or 2 1; or 3 0; in": {0, 1, 2, 3, 4, 0},
	} {
		levelsAre(t, netlist(text), want)
	}
}

func TestLv1Loops(t *testing.T) {
	for text, want := range map[string][]int{
		"not 0":                                 {0},
		"and 0 0":                               {0},
		"in; and 0 1":                           {1},
		"in; and 1 0":                           {1},
		"not 1; not 0":                          {0, 1},
		"not 1; not 2; not 0":                   {0, 1, 2},
		"not 2; not 0; not 1":                   {0, 2, 1},
		"in; not 0; not 3; not 2; not 1":        {2, 3},
		"in; not 2; not 3; not 4; not 2; not 1": {2, 3, 4},
		"in; flip 1 0":                          {1},
		"in; flip 1 1":                          {1},
		"in; not 2; flip 1 0":                   {1, 2},
		"in; flip 2 0; flip 1 0":                {1, 2},
		"in; flip 2 0; flip 3 1; and 0 1":       {1, 2, 3},
		"in; cond 0 0 1":                        {1},
		"in; cond 0 1 0":                        {1},
		"in; cond 1 0 0":                        {1},
		"in; choose 0 0 1":                      {1},
		"in; const; choose 1 0 2; delay 2":      {2},
		"in; same 1 0":                          {1},
		"wide 0":                                {0},
		"part 0":                                {0},
		"cat 0":                                 {0},
		"in; cat 0 0 2; any 1":                  {1, 2},
		"delay 1; not 1; delay 2":               {1},
		"in; delay 2; and 1 3; and 2 0; flip 0 2":   {2, 3},
		"in; flip 0 2; not 1; flip 4 1; not 3; in":  {3, 4},
		"in; and 0 2; and 0 3; and 0 4; and 1 0":    {1, 2, 3, 4},
		"in; not 0; and 1 1; and 1 2; and 3 4":      {4},
		"in; and 0 0; and 4 1; delay 2; xor 1 2":    {2, 4},
		"const; not 0; and 1 5; in; delay 2; not 2": {2, 5},
	} {
		loop := hasLoop(t, netlist(text))
		at := slices.Index(loop, want[0])
		if at < 0 || !slices.Equal(append(loop[at:len(loop):len(loop)], loop[:at]...), want) {
			t.Errorf("%s: %v, not %v", text, loop, want)
		}
	}
	// Some loop of several.
	for _, text := range []string{"not 0; not 1", "not 1; not 0; not 3; not 2", "and 1 2; not 0; not 0", "and 0 1; and 1 0", "in; and 1 2; and 2 3; and 3 1", "in; flip 1 1; not 3; flip 2 0"} {
		hasLoop(t, netlist(text))
	}
}

// arity is how many go into a node of a name, a cat's being three here.
func arity() map[string]int {
	out := map[string]int{"wide": 1, "same": 2, "choose": 3, "cond": 3, "cat": 3}
	for name := range operators() {
		switch {
		case out[name] > 0:
		case strings.Contains(" not neg log all any odd part ", " "+name+" "):
			out[name] = 1
		default:
			out[name] = 2
		}
	}
	return out
}

// Each node hangs on each of what goes in, whatever its kind.
func TestLv1EachIn(t *testing.T) {
	all := arity()
	if len(all) != 28 {
		t.Fatal(len(all))
	}
	for name, count := range all {
		for at := range count {
			ins := make([]int, count)
			ins[at] = 3
			l := netlist("in; not 0; not 1; not 2; const; delay 3")
			l.Nodes = append(l.Nodes, node(name, ins...))
			levelsAre(t, l, []int{0, 1, 2, 3, 0, 0, 4})
			l.Nodes[1].Ins = []int{7}
			l.Nodes = append(l.Nodes, node("any", 6))
			if loop := hasLoop(t, l); len(loop) != 5 {
				t.Errorf("%s: %v", name, loop)
			}
			for k := range ins {
				ins[k] = 4
			}
			ins[at] = 5
			levelsAre(t, l, []int{0, 3, 4, 5, 0, 0, 1, 2})
		}
	}
}

func TestLv1Examples(t *testing.T) {
	for _, source := range []string{
		"module m(output a, output b); assign a = b; assign b = a; endmodule",
		"module m(input c, output a); assign a = ~a & c; endmodule",
		"module m(input c, output reg q); always @(posedge q) q <= c; endmodule",
		"module m(input c, output reg q, output k); assign k = ~q; always @(posedge k) q <= c; endmodule",
		"module m(input c, output reg p, output reg q); always @(posedge q) p <= c; always @(posedge p) q <= c; endmodule",
		"module m(input c, output reg p, output q); always @(*) if (c) p = q; else p = 0; assign q = p; endmodule",
		"module s(input a, output y); assign y = a; endmodule module m(output w, output v); s p (.a(w), .y(v)); s q (.a(v), .y(w)); endmodule",
	} {
		hasLoop(t, lowered(t, source))
	}
	for _, source := range []string{
		"module m(output a, output b); assign #1 a = b; assign b = a; endmodule",
		"module m(input c, output a); assign #3 a = ~a & c; endmodule",
		"module m(input c, output reg q); always @(posedge c) q <= ~q; endmodule",
		"module m(input c, output reg q, output k); assign #1 k = ~q; always @(posedge k) q <= c; endmodule",
		"module m(input c, output reg p, output reg q); always @(posedge c) p <= ~q; always @(posedge p) q <= ~q; endmodule",
		"module m(input c, output reg p, output q); always @(*) if (c) p = q; else p = 0; assign #2 q = p; endmodule",
		"module s(input a, output y); assign y = a; endmodule module m(input k, output w, output v); s p (.a(k), .y(v)); s q (.a(v), .y(w)); endmodule",
	} {
		l := lowered(t, source)
		want, ok := levels(l)
		if !ok {
			t.Fatalf("%s: a loop", source)
		}
		levelsAre(t, l, want)
	}
}

// nil and the empty list are the same; there are netlists without nodes, and without ports.
func TestLv1Empty(t *testing.T) {
	for _, l := range []api.Netlist{{}, {Nodes: []api.Node{}, Nets: []int{}}, {Nodes: []api.Node{}}} {
		levelsAre(t, l, nil)
	}
	bare := api.Netlist{Nodes: []api.Node{{Kind: api.NdConst, Wide: 2, Value: "xz", Ins: []int{}}, {Kind: api.NdOp, Op: api.OpNot, Wide: 2, Ins: []int{0}}}}
	levelsAre(t, bare, []int{0, 1})
	bare.Nodes[1].Ins[0] = 1
	hasLoop(t, bare)
}

// What is no port's counts, too, and so does a net that is there twice.
func TestLv1Nets(t *testing.T) {
	l := netlist("in; not 0; not 1; not 2")
	l.Nets, l.Ports = []int{3, 0, 3, 1}, 4
	levelsAre(t, l, []int{0, 1, 2, 3})
	l.Nodes = append(l.Nodes, node("not", 4))
	if loop := hasLoop(t, l); !slices.Equal(loop, []int{4}) {
		t.Error(loop)
	}
}
