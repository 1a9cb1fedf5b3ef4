package lower_test

import (
	"silkworm/api"
	"silkworm/lower"
	"testing"
)

// kindsOf is how many nodes of each kind there are, operators by their numbers less than 0.
func kindsOf(l api.Netlist) map[int]int {
	kinds := map[int]int{}
	for _, n := range l.Nodes {
		kinds[n.Kind]++
		if n.Kind == api.NdOp {
			kinds[-n.Op]++
		}
	}
	return kinds
}

// The chapter's example, and the nodes that each thing asks for.
func TestLw1Nodes(t *testing.T) {
	ports := "module m(input c, input [1:0] a, input [1:0] b, output [1:0] y, output reg [1:0] q, output [1:0] o); "
	for _, c := range []struct {
		items string
		want  map[int]int
	}{
		{"assign y = a + b;", map[int]int{api.NdIn: 3, -api.OpAdd: 1, api.NdFlip: 0, api.NdDelay: 0}},
		{"assign #3 y = a;", map[int]int{api.NdIn: 3, api.NdDelay: 1, api.NdFlip: 0}},
		{"always @(posedge c) q <= a;", map[int]int{api.NdIn: 3, api.NdFlip: 1, api.NdChoose: 0}},
		{"always @(posedge c) if (b) q <= a;", map[int]int{api.NdFlip: 1, api.NdChoose: 1, -api.OpCond: 0}},
		{"always @(*) if (b) q = a; else q = b;", map[int]int{api.NdFlip: 0, api.NdChoose: 1, -api.OpCond: 0}},
		{"assign y = c ? a : b;", map[int]int{api.NdChoose: 0, -api.OpCond: 1}},
		{"always @(*) case (a) 2'b00: q = b; default: q = a; endcase", map[int]int{api.NdSame: 1, -api.OpEq: 0}},
		{"assign y = a == b;", map[int]int{api.NdSame: 0, -api.OpEq: 1}},
		{"assign y = a[1:1];", map[int]int{-api.OpPart: 1}},
		{"assign y = a[b];", map[int]int{-api.OpBit: 1}},
		{"assign y = {a, b, c};", map[int]int{-api.OpCat: 1}},
		{"assign y = a; assign o = a;", map[int]int{api.NdIn: 3}},
		{"", map[int]int{api.NdIn: 3, api.NdFlip: 0, api.NdDelay: 0, api.NdOp: 0}},
	} {
		l := netlistOf(t, ports+c.items+" endmodule")
		kinds := kindsOf(l)
		for kind, n := range c.want {
			if kinds[kind] != n {
				t.Errorf("%s: %d of the kind %d, not %d: %v", c.items, kinds[kind], kind, n, l.Nodes)
			}
		}
	}
}

// A delay has its time, a part its bounds, and a flip-flop its clock.
func TestLw1Fields(t *testing.T) {
	l := netlistOf(t, "module m(input [3:0] a, input c, output y, output z, output [1:0] o, output reg q); assign #1 y = a; assign #1048576 z = c; assign o = a[2:1]; always @(posedge c) q <= a[3]; endmodule")
	for net, time := range map[int]int{2: 1, 3: api.MaxDelay} {
		if n := l.Nodes[l.Nets[net]]; n.Kind != api.NdDelay || n.Time != time || n.Wide != 1 {
			t.Errorf("%v", n)
		}
	}
	if n := l.Nodes[l.Nets[5]]; n.Kind != api.NdFlip || n.Ins[0] != l.Nets[1] {
		t.Errorf("%v", n)
	}
	for _, n := range l.Nodes {
		if n.Op == api.OpPart && (n.Hi != 2 || n.Lo != 1 || n.Ins[0] != l.Nets[0]) {
			t.Errorf("%v", n)
		}
	}
}

// The nets are the ports alone, whatever else there is.
func TestLw1Ports(t *testing.T) {
	l := netlistOf(t, "module s(input i, output o); assign o = ~i; endmodule module m(input a, output y); wire w; s u (.i(a), .o(w)); s v (.i(w), .o(y)); endmodule")
	if l.Ports != 2 || len(l.Nets) != 2 {
		t.Error(l)
	}
	l = netlistOf(t, "module m(); wire w; endmodule")
	if l.Ports != 0 || len(l.Nets) != 0 {
		t.Error(l)
	}
	if l, e := lower.Run(api.Flat{}); e != api.OK || len(l.Nodes) != 0 || l.Ports != 0 || lower.Check(l) != api.OK {
		t.Error(l, e)
	}
	netlistOf(t, "module m(input [255:0] a, output [255:0] b, output reg [255:0] c); endmodule")
}

// Loops that are there, also where no port hangs on them.
func TestLw1Loops(t *testing.T) {
	for _, items := range []string{
		"wire a, b; assign a = b; assign b = a;", "wire a; assign a = a;", "wire a; assign a = ~a & c;", "wire a, b, d; assign a = b; assign b = d[0]; assign d = {a, c};",
		"wire a; reg q; assign a = q; always @(*) q = a;", "wire a; reg q; assign a = q; always @(*) if (a) q = 0; else q = 1;", "wire a; reg q; assign a = q; always @(*) case (c) a: q = c; default: q = ~c; endcase",
		"reg q; always @(posedge q) q <= c;", "reg q; wire w; assign w = ~q; always @(posedge w) q <= c;", "reg q, r; always @(posedge q) r <= c; always @(posedge r) q <= c;",
		"assign y = y;", "wire a; assign a = 1 ? c : a;", "wire a; assign a = c[a];", "wire [1:0] a; assign a = a[0:0];",
	} {
		l := netlistOf(t, "module m(input c, output y); "+items+" endmodule")
		if !loops(l) {
			t.Errorf("%s: no loop: %v", items, l.Nodes)
		}
	}
}

// What hangs on itself by a delay, a flip-flop's data, or within one always behind it is set, is no loop.
func TestLw1NoLoops(t *testing.T) {
	for _, items := range []string{
		"wire a; assign #1 a = ~a;", "wire a, b; assign #1 a = b; assign b = a;", "reg q; always @(posedge c) q <= ~q;", "reg q; wire w; assign w = q; always @(posedge c) if (w) q <= w;",
		"reg q; always @(*) begin q = c; q = ~q; end", "reg q, r; always @(*) begin q = c; r = q; q = r; end", "reg q; always @(*) begin if (c) q = 1; q = 0; end",
		"reg q; always @(*) begin case (c) 1: q = c; endcase if (c) q = 0; else q = c; end", "reg q, r; always @(*) begin if (c) q = 1; if (c) begin r = c; q = r; end else begin q = c; r = q; end end",
		"reg q; wire w; assign #2 w = q; always @(posedge w) q <= c;", "reg q, r, s; always @(posedge c) q <= s; always @(posedge q) r <= s; always @(posedge r) s <= c;",
		"reg [1:0] q; always @(*) begin q = c; case (q[0]) q[1:0]: q = 1; default: if (q) q = q + 1; endcase end", "reg q; always @(*) case (c) 0: q = 1; 1: if (c) q = 1; else q = 0; default: begin q = 1; q = q ^ c; end endcase",
	} {
		f := flatOf(t, "module m(input c, output y); "+items+" endmodule")
		if hangsOnItself(f) {
			t.Errorf("%s: a net hangs on itself", items)
		}
		if l := lowered(t, f); loops(l) {
			t.Errorf("%s: a loop: %v", items, l.Nodes)
		}
	}
}

// Expressions come as wide as they must.
func TestLw2Widths(t *testing.T) {
	for _, c := range []struct {
		expr         string
		wide         int
		inputs, want string
	}{
		// as wide as what they are parts of is needed
		{"a + b", 2, "11 01 0 0000", "00"}, {"a + b", 3, "11 01 0 0000", "100"}, {"a - b", 3, "00 01 0 0000", "111"}, {"a - b", 2, "00 01 0 0000", "11"},
		{"~a", 4, "01 00 0 0000", "1110"}, {"-a", 4, "01 00 0 0000", "1111"}, {"~a", 1, "01 00 0 0000", "0"}, {"a & ~b", 3, "11 01 0 0000", "010"}, {"a | ~b", 3, "11 01 0 0000", "111"}, {"a ^ ~c", 2, "01 00 0 0000", "10"},
		{"(a + b) >> 1", 2, "11 01 0 0000", "00"}, {"(a + b) >> 1", 3, "11 01 0 0000", "010"}, {"(a + b + 3'b0) >> 1", 2, "11 01 0 0000", "10"}, {"a << 1", 2, "11 00 0 0000", "10"}, {"a << 1", 3, "11 00 0 0000", "110"}, {"a << 1", 1, "11 00 0 0000", "0"},
		{"c ? a + b : 4'b0", 4, "11 01 1 0000", "0100"}, {"c ? a + b : 2'b0", 3, "11 01 1 0000", "100"}, {"c ? a + b : 2'b0", 2, "11 01 1 0000", "00"}, {"c ? 2'b0 : ~a", 3, "11 01 0 0000", "100"}, {"-(a + b)", 3, "11 01 0 0000", "100"},
		{"a + 1 >> 1", 2, "11 00 0 0000", "10"}, {"~a >> 31", 2, "00 00 0 0000", "00"}, {"~a >> 1", 33, "00 00 0 0000", "011111111111111111111111111111111"},
		// of a shift the second, of ? : the first, by themselves
		{"d << (a + b)", 4, "11 01 0 0101", "0101"}, {"d << (a + b + 3'b0)", 4, "11 01 0 0101", "0000"}, {"d >> ~a", 4, "10 00 0 1000", "0100"}, {"a + b ? 4'b1111 : 4'b0101", 4, "11 01 0 0000", "0101"}, {"~c ? 2'b10 : 2'b01", 2, "00 00 1 0000", "01"},
		// both as wide as the wider one
		{"a + b < 3'b100", 1, "11 01 0 0000", "0"}, {"a + b < 2'b10", 1, "11 01 0 0000", "1"}, {"a + b == d", 1, "11 01 0 0100", "1"}, {"d == a + b", 1, "11 01 0 0100", "1"}, {"a + b == 0", 1, "11 01 0 0000", "0"}, {"~a == 2'b10", 1, "01 00 0 0000", "1"},
		{"~a == 3'b010", 1, "01 00 0 0000", "0"}, {"~a == 3'b110", 1, "01 00 0 0000", "1"}, {"~a != d", 1, "01 00 0 1110", "0"}, {"-a > d", 1, "01 00 0 1110", "1"}, {"-a >= 2'b11", 1, "01 00 0 0000", "1"}, {"a - b <= d", 1, "00 01 0 1111", "1"}, {"(a < b) + (a < b)", 2, "00 01 0 0000", "10"},
		{"(a + b < 2'b10) + 3'b111", 3, "11 01 0 0000", "000"}, {"~(a == b)", 2, "01 01 0 0000", "10"}, {"~(a < b)", 3, "01 01 0 0000", "111"},
		// all others by themselves
		{"{a + b, a + b}", 4, "11 01 0 0000", "0000"}, {"{~c, ~c}", 4, "00 00 0 0000", "0011"}, {"{a + b}", 3, "11 01 0 0000", "000"}, {"|(a + b)", 1, "11 01 0 0000", "0"}, {"&(~a)", 1, "00 00 0 0000", "1"}, {"^(a + b)", 3, "10 01 0 0000", "000"}, {"!(a + b)", 2, "11 01 0 0000", "01"},
		{"(a + b) && c", 1, "11 01 1 0000", "0"}, {"c || (a + b)", 1, "11 01 0 0000", "0"}, {"(a + b + 3'b0) && c", 2, "11 01 1 0000", "01"}, {"d[a + b]", 1, "11 01 0 0001", "1"}, {"d[a + b + 3'b0]", 1, "11 01 0 0001", "x"}, {"d[2:1]", 4, "00 00 0 0110", "0011"}, {"~d[2:1]", 4, "00 00 0 0110", "1100"}, {"d[3]", 3, "00 00 0 1000", "001"}, {"~d[3]", 3, "00 00 0 1000", "110"},
		// cut, or widened by noughts
		{"d", 2, "00 00 0 0110", "10"}, {"a", 4, "11 00 0 0000", "0011"}, {"3'b1xz", 2, "00 00 0 0000", "xz"}, {"3'b1xz", 5, "00 00 0 0000", "001xz"}, {"5", 2, "00 00 0 0000", "01"}, {"d + d", 2, "00 00 0 1111", "10"}, {"(d + d) >> 2", 2, "00 00 0 1111", "11"}, {"(d + 5'b0 + d) >> 3", 2, "00 00 0 1111", "11"},
	} {
		valueIs(t, c.expr, c.wide, c.inputs, c.want)
	}
}

// What is not known, and what is not driven.
func TestLw2Unknown(t *testing.T) {
	for _, c := range []struct {
		expr         string
		wide         int
		inputs, want string
	}{
		{"a", 3, "xz 00 0 0000", "0xz"}, {"a + b", 3, "0x 00 0 0000", "xxx"}, {"~a", 3, "z1 00 0 0000", "1x0"}, {"a & b", 2, "xz 01 0 0000", "0x"}, {"a | b", 2, "xz 01 0 0000", "x1"}, {"-a", 4, "x1 00 0 0000", "xxxx"}, {"a << b", 3, "11 x0 0 0000", "xxx"}, {"a << b", 2, "1z 01 0 0000", "z0"},
		{"c ? a : b", 2, "01 11 x 0000", "x1"}, {"c ? a : b", 2, "z1 z0 z 0000", "xx"}, {"c ? a : b", 2, "zz 10 1 0000", "zz"}, {"d ? a : b", 2, "01 10 0 x010", "01"}, {"c ? a : d", 4, "01 10 x 0010", "00xx"}, {"a == b", 1, "x0 x0 0 0000", "x"}, {"a == b", 2, "x0 x0 0 0000", "0x"}, {"{a, b}", 4, "xz zx 0 0000", "xzzx"}, {"d[a]", 1, "0x 00 0 1111", "x"},
		{"d[2:1]", 2, "00 00 0 0zx0", "zx"}, {"a && c", 1, "x0 00 0 0000", "0"}, {"a || c", 1, "x1 00 0 0000", "1"}, {"!a", 1, "x0 00 0 0000", "x"}, {"&a", 1, "x0 00 0 0000", "0"}, {"|a", 1, "x1 00 0 0000", "1"}, {"^a", 1, "x1 00 0 0000", "x"},
	} {
		valueIs(t, c.expr, c.wide, c.inputs, c.want)
	}
	waveIs(t, "module m(output [1:0] y, output [1:0] n, output reg q); assign n = ~y; endmodule", "y zz; n xx; q z")
	waveIs(t, "module s(input [2:0] i, output [2:0] o, output e); assign o = i; endmodule module m(output [3:0] y, output v); s u (.o(y), .e(v)); endmodule", "y 0zzz; v z")
}
