package part_test

import (
	"silkworm/api"
	"silkworm/part"
	"slices"
	"testing"
)

func TestPa1CheckTakes(t *testing.T) {
	for _, c := range []struct{ nodes, of, ahead string }{
		{"in", "0", "0"},
		{"in; delay 0 2", "0 1", "0 2; 0 0"},
		{"in; delay 0 2", "1 0", "0 0; 2 0"},
		{"in; delay 0 2", "0 0", "0"},
		{"in; delay 0 1048576", "0 1", "0 1048576; 0 0"},
		{"in; in", "0 1", "0 0; 0 0"},
		{"in; in", "0 0", "0"},
		{"in; not 0; delay 1 3; not 2", "0 0 1 1", "0 3; 0 0"},
		{"in; delay 0 5; delay 0 3; delay 0 4", "0 1 1 1", "0 3; 0 0"},
		{"in; delay 0 5; delay 0 3; delay 0 4", "0 1 2 1", "0 4 3; 0 0 0; 0 0 0"},
		{"in; delay 0 5; delay 0 3; delay 0 4", "0 1 0 1", "0 4; 0 0"},
		{"in; delay 0 5; delay 0 3; delay 0 4", "1 0 2 2", "0 0 0; 5 0 3; 0 0 0"},
		{"in; delay 0 5; delay 1 3; delay 2 4", "0 1 2 3", "0 5 0 0; 0 0 3 0; 0 0 0 4; 0 0 0 0"},
		{"in; delay 0 5; delay 1 3; delay 2 4", "0 1 0 1", "0 4; 3 0"},
		{"delay 1 6; delay 0 7", "0 1", "0 7; 6 0"},
		{"delay 1 6; delay 0 7", "1 0", "0 6; 7 0"},
		{"delay 0 6", "0", "0"},
		{"delay 0 6; delay 0 7", "0 1", "0 7; 0 0"},
		{"in; flip 0 2; delay 1 2", "0 0 0", "0"},
		{"in; in; flip 0 1; delay 2 9; delay 3 8", "1 1 1 1 0", "0 0; 8 0"},
	} {
		checks(t, netlist(c.nodes), parts(c.of, c.ahead), api.OK)
	}
}

func TestPa1CheckRefuses(t *testing.T) {
	const chain = "in; delay 0 5; not 1; delay 2 3; delay 0 4"
	good := func() api.Parts { return parts("0 1 1 2 2", "0 5 4; 0 0 3; 0 0 0") }
	checks(t, netlist(chain), good(), api.OK)
	for name, spoil := range map[string]func(p *api.Parts){
		"nothing":                     func(p *api.Parts) { *p = api.Parts{} },
		"no parts":                    func(p *api.Parts) { p.N = 0 },
		"fewer than none":             func(p *api.Parts) { p.N = -3 },
		"one part fewer":              func(p *api.Parts) { p.N = 2 },
		"one part more":               func(p *api.Parts) { p.N = 4 },
		"far too many":                func(p *api.Parts) { p.N = 1 << 62 },
		"no node told":                func(p *api.Parts) { p.Of = nil },
		"one node fewer":              func(p *api.Parts) { p.Of = p.Of[:4] },
		"one node more":               func(p *api.Parts) { p.Of = append(p.Of, 2) },
		"a part below all":            func(p *api.Parts) { p.Of[4] = -1 },
		"a part above all":            func(p *api.Parts) { p.Of[4] = 3 },
		"a part far away":             func(p *api.Parts) { p.Of[4] = -1 << 63 },
		"a part that no node is of":   func(p *api.Parts) { *p = parts("0 1 1 1 1", "0 4 0; 0 0 0; 0 0 0") },
		"the first one that is none":  func(p *api.Parts) { *p = parts("1 2 2 2 2", "0 0 0; 0 0 4; 0 0 0") },
		"nodes without delay between": func(p *api.Parts) { *p = parts("0 1 2 2 2", "0 5 4; 0 0 0; 0 0 0") },
		"no numbers":                  func(p *api.Parts) { p.Ahead = nil },
		"one list fewer":              func(p *api.Parts) { p.Ahead = p.Ahead[:2] },
		"one list more":               func(p *api.Parts) { p.Ahead = append(p.Ahead, make([]int, 3)) },
		"an empty list more":          func(p *api.Parts) { p.Ahead = append(p.Ahead, nil) },
		"a list of nothing":           func(p *api.Parts) { p.Ahead[2] = nil },
		"a list that is too short":    func(p *api.Parts) { p.Ahead[2] = p.Ahead[2][:2] },
		"a list that is too long":     func(p *api.Parts) { p.Ahead[2] = make([]int, 4) },
		"lists of one more each":      func(p *api.Parts) { p.Ahead = parts("", "0 5 4 0; 0 0 3 0; 0 0 0 0").Ahead },
		"a number that is too small":  func(p *api.Parts) { p.Ahead[0][1] = 4 },
		"a number that is too large":  func(p *api.Parts) { p.Ahead[0][1] = 6 },
		"none where there is one":     func(p *api.Parts) { p.Ahead[0][1] = 0 },
		"one where there is none":     func(p *api.Parts) { p.Ahead[2][0] = 1 },
		"one below none":              func(p *api.Parts) { p.Ahead[2][0] = -1 },
		"one of a part and itself":    func(p *api.Parts) { p.Ahead[1][1] = 1 },
		"the other way round":         func(p *api.Parts) { p.Ahead = parts("", "0 0 0; 5 0 0; 4 3 0").Ahead },
	} {
		p := good()
		spoil(&p)
		if mayBe(netlist(chain), p) {
			t.Errorf("%s: a test that may be", name)
		}
		if e := part.Check(netlist(chain), p); e != api.ErrArg {
			t.Errorf("%s: %d", name, e)
		}
	}
	// The greatest, the last or the first of several times is not the least one.
	for _, ahead := range []string{"0 5; 0 0", "0 4; 0 0", "0 12; 0 0"} {
		checks(t, netlist("in; delay 0 5; delay 0 3; delay 0 4"), parts("0 1 1 1", ahead), api.ErrArg)
	}
	// A delay within a part is none from it to itself.
	checks(t, netlist("in; delay 0 5"), parts("0 0", "5"), api.ErrArg)
	checks(t, netlist("delay 0 5"), parts("0", "5"), api.ErrArg)
}

// Each node that is no delay is where each of those is that go in; a delay may be elsewhere.
func TestPa1EachIn(t *testing.T) {
	all := arity()
	if len(all) != 29 {
		t.Fatal(len(all))
	}
	for name, count := range all {
		for at := range count {
			ins := make([]int, count)
			ins[at] = 2
			l := netlist("const; const; delay 1 3")
			l.Nodes = append(l.Nodes, node(name, ins...))
			for n := 1; n < 15; n++ {
				of := []int{n & 1, n >> 1 & 1, n >> 2 & 1, n >> 3 & 1}
				want := api.ErrArg
				if of[3] == of[2] && (count == 1 || of[3] == of[0]) {
					want = api.OK
				}
				checks(t, l, withAhead(l, of, 2), want)
			}
			groups := 2
			if count == 1 {
				groups = 3
			}
			if p := parted(t, l, 64); p.N != groups {
				t.Errorf("%s: %s", name, told(p))
			}
		}
	}
}

// A loop without delay does not count for Check: it asks of layer 9 alone.
func TestPa1CheckLoop(t *testing.T) {
	checks(t, netlist("not 0"), parts("0", "0"), api.OK)
	checks(t, netlist("not 1; not 0; delay 1 2"), parts("0 0 1", "0 2; 0 0"), api.OK)
	checks(t, netlist("not 1; not 0; delay 1 2"), parts("0 1 1", "0 0; 0 0"), api.ErrArg)
	checks(t, netlist("in; flip 1 0"), parts("0 0", "0"), api.OK)
}

// Of a netlist without nodes there are no parts: a part is told by a node.
func TestPa1Empty(t *testing.T) {
	for _, l := range []api.Netlist{{}, {Nodes: []api.Node{}, Nets: []int{}}} {
		for _, n := range []int{-1, 0, 1, 2, 64, 65} {
			refused(t, l, n, api.ErrArg)
		}
		for _, p := range []api.Parts{{}, {N: 1, Ahead: [][]int{{0}}}, {N: 1, Ahead: [][]int{nil}}, {Of: []int{}, Ahead: [][]int{}}, {N: 1, Of: []int{0}, Ahead: [][]int{{0}}}} {
			checks(t, l, p, api.ErrArg)
		}
	}
}

func TestPa1RunHowMany(t *testing.T) {
	l := netlist("in; delay 0 2; delay 1 3")
	for _, n := range []int{-1 << 63, -1, 0, 65, 66, 1 << 40, 1<<63 - 1} {
		refused(t, l, n, api.ErrArg)
		refused(t, netlist("not 0"), n, api.ErrArg)
	}
	for n := 1; n <= 64; n++ {
		if p := parted(t, l, n); p.N != min(n, 3) {
			t.Errorf("%d: %s", n, told(p))
		}
		refused(t, netlist("in; delay 0 2; not 3; not 2"), n, api.ErrLoop)
	}
}

func TestPa1RunLoops(t *testing.T) {
	for _, text := range []string{
		"not 0", "not 1; not 0", "in; and 0 1", "in; flip 1 0", "in; flip 1 1", "in; not 2; flip 1 0", "in; delay 0 2; and 1 2", "delay 1 1; not 1", "in; flip 2 0; flip 1 0; delay 1 4",
	} {
		for _, n := range []int{1, 2, 64} {
			refused(t, netlist(text), n, api.ErrLoop)
		}
	}
	for text, count := range map[string]int{
		"delay 0 1": 1, "delay 1 1; not 0": 1, "delay 1 1; delay 0 1": 2, "in; flip 0 1": 1, "in; flip 0 2; not 1": 1, "in; flip 0 2; delay 1 1": 1, "in; flip 0 0; delay 1 1": 2,
		"in; flip 2 0; delay 3 1; not 1": 1, "in; delay 0 1; delay 1 1; not 0; not 1; not 2": 3,
	} {
		if p := parted(t, netlist(text), 64); p.N != count {
			t.Errorf("%s: %s", text, told(p))
		}
	}
}

// Largest groups first, each to the part that is the smallest then.
func TestRunDeals(t *testing.T) {
	const four = "in; delay 0 7; not 1; not 2; delay 3 5; delay 4 6; not 5"
	for n, want := range map[int]api.Parts{
		1: parts("0 0 0 0 0 0 0", "0"),
		2: parts("1 0 0 0 0 1 1", "0 6; 7 0"),
		3: parts("2 0 0 0 2 1 1", "0 0 5; 0 0 0; 7 6 0"),
		4: parts("2 0 0 0 3 1 1", "0 0 0 5; 0 0 0 0; 7 0 0 0; 0 6 0 0"),
		5: parts("2 0 0 0 3 1 1", "0 0 0 5; 0 0 0 0; 7 0 0 0; 0 6 0 0"),
	} {
		checks(t, netlist(four), want, api.OK)
		if p := parted(t, netlist(four), n); told(p) != told(want) {
			t.Errorf("%d: %s, not %s", n, told(p), told(want))
		}
	}
}

func TestExamples(t *testing.T) {
	l := lowered(t, "module m(input a, output y); assign #2 y = a; endmodule")
	for n := 1; n <= 64; n++ {
		p := parted(t, l, n)
		if p.N != min(n, 2) {
			t.Errorf("%d: %s", n, told(p))
		}
		if n == 1 {
			continue
		}
		if a, y := p.Of[l.Nets[0]], p.Of[l.Nets[1]]; a == y || p.Ahead[a][y] != 2 || p.Ahead[y][a] != 0 {
			t.Errorf("%d: %s", n, told(p))
		}
	}
	for source, count := range map[string]int{
		"module m(input a, input b, output y); assign y = a & b; endmodule":                                                   1,
		"module m(input a, output y); assign y = a; endmodule":                                                                1,
		"module m(input a, output y, output z); assign #1 y = ~a; assign #2 z = ~y; endmodule":                                3,
		"module m(input a, output y, output z); assign #1 y = ~z; assign #2 z = ~y & a; endmodule":                            2,
		"module m(input c, input d, output reg q, output y); always @(posedge c) q <= d; assign #3 y = q; endmodule":          2,
		"module m(input c, output reg q, output y); always @(posedge c) q <= ~y; assign #3 y = q; endmodule":                  1,
		"module m(input a, input b, output y, output z); assign y = ~a; assign z = ~b; endmodule":                             2,
		"module s(input a, output y); assign #4 y = ~a; endmodule module m(input a, output y); s u (.a(a), .y(y)); endmodule": 2,
	} {
		l := lowered(t, source)
		if p := parted(t, l, 64); p.N != count {
			t.Errorf("%s: %s", source, told(p))
		}
		parted(t, l, 1)
	}
	for _, source := range []string{
		"module m(output a, output b); assign a = b; assign b = a; endmodule",
		"module m(input c, output reg q); always @(posedge q) q <= c; endmodule",
	} {
		refused(t, lowered(t, source), 4, api.ErrLoop)
	}
}

// Pa2: with n 1 all nodes are of one part.
func TestPa2One(t *testing.T) {
	d := dice(1)
	for i := range 1000 {
		l := makeNetlist(&d, 40, []int{0, 30, 100}[i%3])
		p := parted(t, l, 1)
		if p.N != 1 || !slices.Equal(p.Of, make([]int, len(l.Nodes))) || len(p.Ahead) != 1 || !slices.Equal(p.Ahead[0], []int{0}) {
			t.Fatalf("%s: %s", shown(l), told(p))
		}
	}
}

// Pa2: as many nodes as there may be, without delay between them, are of one part; a delay that they go into need not be.
func TestPa2Large(t *testing.T) {
	const last = api.MaxNodes - 1
	for name, next := range map[string]func(i int) api.Node{
		"up":     func(i int) api.Node { return node("not", i-1) },
		"down":   func(i int) api.Node { return node("not", i%(last-1)+1) },
		"star":   func(i int) api.Node { return node("wide", 0) },
		"clocks": func(i int) api.Node { return node("flip", 0, i) },
		"data":   func(i int) api.Node { return node("flip", i-1, last-i) },
		"pairs":  func(i int) api.Node { return node("xor", i/2, i-1) },
	} {
		l := filled(api.MaxNodes, func(i int) api.Node {
			if i == 0 || name == "down" && i == last-1 {
				return node("in")
			}
			return next(i)
		})
		if name == "down" {
			l.Nodes[last] = node("and", 0, 1)
		}
		for _, n := range []int{1, 2, 64} {
			if p := parted(t, l, n); p.N != 1 {
				t.Errorf("%s in %d: %d parts", name, n, p.N)
			}
			late := api.Netlist{Nodes: append(l.Nodes[:last:last], node("delay", last-1, 3)), Nets: l.Nets, Ports: l.Ports}
			if p := parted(t, late, n); p.N > n || name == "up" && p.N != min(n, 2) {
				t.Errorf("%s in %d: %d parts", name, n, p.N)
			}
		}
	}
}
