package engine_test

import (
	"silkworm/api"
	"slices"
	"strings"
	"testing"
)

func TestEn1Examples(t *testing.T) {
	l := lowered(t, "module m(input a, output y); assign #2 y = a; endmodule")
	tells(t, l, changes("3 0 1"), 9, "x x | 3 0 1, 5 1 1")
	tells(t, l, changes("3 0 1"), 5, "x x | 3 0 1, 5 1 1")
	tells(t, l, changes("3 0 1"), 4, "x x | 3 0 1")
	l = lowered(t, "module m(input a, output y); assign #2 y = ~a; endmodule")
	tells(t, l, changes("1 0 0"), 5, "x x | 1 0 0, 3 1 1")
}

// First values, and what comes without any stimulus.
func TestEn1Ahead(t *testing.T) {
	for text, want := range map[string]string{
		"in 1":     "x",
		"in 3":     "xxx",
		"const 1z": "1z",
		"const 0; in 1; and 1 0 1; or 1 0 1; not 1 1":               "0 x 0 x x",
		"const z1; any 1 0; not 2 0; part@0:0 1 2":                  "z1 1 x0 0",
		"not 1 1; not 1 2; const 0":                                 "0 1 0",
		"const 1; const 0; flip 1 0 1":                              "1 0 x",
		"const 1; delay@3 1 0":                                      "1 x | 3 1 1",
		"const 1; delay@9 1 0":                                      "1 x | 9 1 1",
		"const 1; delay@10 1 0":                                     "1 x",
		"const x; delay@1 1 0":                                      "x x",
		"const z; delay@1 1 0":                                      "z x | 1 1 z",
		"const x1; delay@1 2 0":                                     "x1 xx | 1 1 x1",
		"delay@1 2 2; delay@2 2 0; const 01":                        "xx xx 01 | 1 0 01, 3 1 01",
		"delay@1 1 0":                                               "x",
		"delay@1 1 1; not 1 0":                                      "x x",
		"const 1; delay@1 1 0; flip 1 1 0":                          "1 x x | 1 1 1, 1 2 1",
		"const 0; delay@1 1 0; flip 1 1 0":                          "0 x x | 1 1 0",
		"const 0; delay@1 1 0; not 1 1; flip 1 2 0; delay@4 1 3":    "0 x x x x | 1 1 0, 1 2 1, 1 3 0, 5 4 0",
		"const 1; delay@2 1 0; same 1 0 1; delay@2 1 2":             "1 x 0 x | 2 1 1, 2 2 1, 2 3 0, 4 3 1",
		"const 01; const 10; const x; choose 2 2 0 1; cond 2 2 0 1": "01 10 x 10 xx",
		"const 11; wide 4 0; wide 1 0; cat 3 2 0; xor 4 1 1":        "11 0011 1 111 0000",
	} {
		tells(t, netlist(text), nil, 9, want)
	}
}

// Gates follow at once, delays later; each change of the inputs counts, pulses that are shorter than a delay, too.
func TestEn1Follow(t *testing.T) {
	and := netlist("in 1; in 1; and 1 0 1")
	tells(t, and, changes("0 0 1, 2 1 0, 4 0 x, 4 1 1, 5 0 1"), 9, "x x x | 0 0 1, 2 1 0, 2 2 0, 4 0 x, 4 1 1, 4 2 x, 5 0 1, 5 2 1")
	// One net changes, what hangs on it does not.
	tells(t, and, changes("0 0 0, 1 1 1, 2 1 0, 3 1 z"), 9, "x x x | 0 0 0, 0 2 0, 1 1 1, 2 1 0, 3 1 z")
	// What is put and is the same is no change.
	tells(t, and, changes("0 0 x, 1 0 1, 2 0 1, 3 0 0, 3 1 x, 4 0 0"), 9, "x x x | 1 0 1, 3 0 0, 3 2 0")
	late := netlist("in 1; delay@5 1 0")
	tells(t, late, changes("0 0 0, 1 0 1, 2 0 0, 3 0 x, 4 0 z, 5 0 x, 6 0 1"), 12,
		"x x | 0 0 0, 1 0 1, 2 0 0, 3 0 x, 4 0 z, 5 0 x, 5 1 0, 6 0 1, 6 1 1, 7 1 0, 8 1 x, 9 1 z, 10 1 x, 11 1 1")
	// x goes in first: that it had sent.
	tells(t, late, changes("0 0 x, 1 0 x, 2 0 1, 3 0 1"), 12, "x x | 2 0 1, 7 1 1")
	// Of two delays, and of an input at the same time.
	two := netlist("in 1; delay@3 1 0; delay@2 1 1; and 1 1 2; xor 1 0 1")
	tells(t, two, changes("1 0 1, 4 0 0"), 20, "x x x x x | 1 0 1, 4 0 0, 4 1 1, 4 4 1, 6 2 1, 6 3 1, 7 1 0, 7 3 0, 7 4 0, 9 2 0")
	// Chains of gates, whatever their numbers are.
	tells(t, netlist("not 1 3; xor 1 0 2; not 1 0; in 1; and 1 1 2"), changes("0 3 0, 1 3 1"), 3,
		"x x x x x | 0 0 1, 0 1 1, 0 2 0, 0 3 0, 0 4 0, 1 0 0, 1 2 1, 1 3 1, 1 4 1")
}

// A net may be any node, a node any number of nets, in any order.
func TestEn1Nets(t *testing.T) {
	tells(t, netlist("in 1; not 1 0 | 1 0 1"), changes("2 1 0"), 5, "x x x | 2 0 1, 2 1 0, 2 2 1")
	tells(t, netlist("in 1; not 1 0; in 2; const 01 | 2 3 3 1 0"), changes("0 0 01, 2 0 11, 2 4 0"), 5, "xx 01 01 x x | 0 0 01, 2 0 11, 2 3 1, 2 4 0")
	tells(t, netlist("in 1; delay@1 1 2; not 1 0 | 0"), changes("2 0 1"), 5, "x | 2 0 1")
	tells(t, netlist("const 1; delay@1 1 0 |"), nil, 5, "")
	tells(t, api.Netlist{}, nil, 0, "")
	tells(t, api.Netlist{}, nil, api.MaxTime, "")
}

func TestEn1Wide(t *testing.T) {
	wide := func(bits string) string { return strings.Repeat(bits, api.MaxWide/len(bits)) }
	l := netlist("in 256; not 256 0; delay@1 256 1; in 1; flip 256 3 2; xor 256 4 0")
	stim := []api.Change{{Value: wide("01")}, {Net: 3, Value: "0"}, {Time: 2, Value: wide("1x")}, {Time: 2, Net: 3, Value: "1"}}
	w := run(t, l, stim, 3)
	want := []api.Change{
		{Time: 0, Net: 0, Value: wide("01")}, {Time: 0, Net: 1, Value: wide("10")}, {Time: 0, Net: 3, Value: "0"},
		{Time: 1, Net: 2, Value: wide("10")},
		{Time: 2, Net: 0, Value: wide("1x")}, {Time: 2, Net: 1, Value: wide("0x")}, {Time: 2, Net: 3, Value: "1"}, {Time: 2, Net: 4, Value: wide("10")}, {Time: 2, Net: 5, Value: wide("0x")},
		{Time: 3, Net: 2, Value: wide("0x")},
	}
	if !slices.Equal(w.List, want) {
		t.Error(w.List)
	}
	again(t, l, stim, 5)
}

// A loop by a delay is none that is refused: it may swing.
func TestEn1Swings(t *testing.T) {
	l := netlist("in 1; delay@3 1 3; and 1 0 1; not 1 2 | 0 1")
	tells(t, l, changes("1 0 0, 6 0 1"), 15, "x x | 1 0 0, 4 1 1, 6 0 1, 9 1 0, 12 1 1, 15 1 0")
	l = lowered(t, "module m(input e, output y); wire n; assign n = ~(e & y); assign #3 y = n; endmodule")
	tells(t, l, changes("1 0 0, 6 0 1"), 14, "x x | 1 0 0, 4 1 1, 6 0 1, 9 1 0, 12 1 1")
}

// Times about the last one that there is.
func TestEn1FarTimes(t *testing.T) {
	const last = api.MaxTime
	l := netlist("in 1; delay@1 1 0; delay@1048576 1 0")
	stim := []api.Change{{Time: last - 1<<20, Value: "0"}, {Time: last - 1, Value: "1"}, {Time: last, Value: "z"}}
	w := run(t, l, stim, last)
	want := []api.Change{
		{Time: last - 1<<20, Value: "0"}, {Time: last - 1<<20 + 1, Net: 1, Value: "0"}, {Time: last - 1, Value: "1"},
		{Time: last, Value: "z"}, {Time: last, Net: 1, Value: "1"}, {Time: last, Net: 2, Value: "0"},
	}
	if !slices.Equal(w.List, want) {
		t.Error(w.List)
	}
	for horizon, count := range map[int]int{last - 1: 3, last - 2: 2, last - 1<<20: 1, last - 1<<20 - 1: 0, 0: 0} {
		if w := run(t, l, stim, horizon); !slices.Equal(w.List, want[:count]) {
			t.Error(horizon, w.List)
		}
	}
}

// What layer 9 makes of sources goes as they say.
func TestEn1Sources(t *testing.T) {
	count := lowered(t, "module m(input c, input r, output reg [1:0] q); always @(posedge c) if (r) q <= 0; else q <= q + 1; endmodule")
	tells(t, count, changes("0 0 0, 0 1 1, 1 0 1, 2 0 0, 2 1 0, 3 0 1, 4 0 0, 5 0 1, 6 0 0, 7 0 1, 8 0 0, 9 0 1"), 9,
		"x x xx | 0 0 0, 0 1 1, 1 0 1, 1 2 00, 2 0 0, 2 1 0, 3 0 1, 3 2 01, 4 0 0, 5 0 1, 5 2 10, 6 0 0, 7 0 1, 7 2 11, 8 0 0, 9 0 1, 9 2 00")
	open := lowered(t, "module m(input a, output y, output [1:0] z); wire n; assign y = a & n; endmodule")
	tells(t, open, changes("1 0 1, 2 0 0"), 5, "x x zz | 1 0 1, 2 0 0, 2 1 0")
	mux := lowered(t, "module m(input s, input a, input b, output reg y); always @(*) case (s) 1'b1: y = a; 1'bx: y = a & b; default: y = b; endcase endmodule")
	tells(t, mux, changes("0 1 1, 1 2 0, 2 0 1, 3 0 z, 4 0 x"), 5, "x x x x | 0 1 1, 1 2 0, 1 3 0, 2 0 1, 2 3 1, 3 0 z, 3 3 0, 4 0 x")
	parts := lowered(t, "module inv #(parameter D = 1) (input a, output y); assign #D y = ~a; endmodule module m(input a, output y); wire n; inv #(.D(2)) u (.a(a), .y(n)); inv #(.D(3)) v (.a(n), .y(y)); endmodule")
	tells(t, parts, changes("1 0 0, 2 0 1"), 9, "x x | 1 0 0, 2 0 1, 6 1 0, 7 1 1")
}
