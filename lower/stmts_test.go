package lower_test

import (
	"fmt"
	"testing"
)

// comb tells what an always without a clock makes of q, of 2 bits, and r, of 3.
func comb(t *testing.T, body, inputs, want string) {
	t.Helper()
	source := "module m(input [1:0] a, input [1:0] b, input c, output reg [1:0] q, output reg [2:0] r); always @(*) begin q = 0; r = 0; " + body + " end endmodule"
	f := flatOf(t, source)
	l := lowered(t, f)
	var a, b, c string
	fmt.Sscan(inputs, &a, &b, &c)
	stim := stimulus(f, "0 a "+a, "0 b "+b, "0 c "+c)
	for _, s := range []*sim{ofFlat(f), ofNetlist(l)} {
		s.run(stim, 0)
		if got := s.portValues()[3] + " " + s.portValues()[4]; got != want {
			t.Errorf("%s of %s: %s, not %s", body, inputs, got, want)
		}
	}
}

// Statements are done in order, each seeing what those ahead did.
func TestLw2InOrder(t *testing.T) {
	comb(t, "q = a; r = q;", "10 00 0", "10 010")
	comb(t, "r = q; q = a;", "10 00 0", "10 000")
	comb(t, "q = a; q = q + 1; q = q + q; r = q;", "10 00 0", "10 010")
	comb(t, "q = a; r = q + b; q = r;", "11 11 0", "10 110")
	comb(t, "q = a; q = {q[0], q[1:1]};", "10 00 0", "01 000")
	comb(t, "q = a; r = q[b];", "10 01 0", "10 001")
	comb(t, "q = a; if (q) q = b; r = q;", "10 11 0", "11 011")
	comb(t, "q = a; case (q) 2: q = b; endcase r = q;", "10 11 0", "11 011")
	comb(t, "q = 1; case (a) q: q = 2; default: q = 3; endcase", "01 00 0", "10 000")
	comb(t, "if (a) begin q = b; r = q; q = q + 1; end", "10 01 0", "10 001")
	// as wide as the wider one of the value and the target, then cut
	comb(t, "r = a + b; q = a + b;", "11 11 0", "10 110")
	comb(t, "q = (a + b) >> 1;", "11 11 0", "01 000")
	comb(t, "q = (a + b + 3'b0) >> 1;", "11 11 0", "11 000")
	comb(t, "r = (a + b) >> 1;", "11 11 0", "00 011")
	comb(t, "q = 3'b1xz; r = q;", "00 00 0", "xz 0xz")
}

// An if's first body is done, if its value's truth is 1, else its other one.
func TestLw2If(t *testing.T) {
	for value, taken := range map[string]bool{"00": false, "01": true, "10": true, "0x": false, "x1": true, "zz": false, "z1": true, "xx": false} {
		both, one, other, none := "01 010", "01 000", "00 001", "00 000"
		if !taken {
			both, one, other, none = "10 001", "00 000", "10 000", "00 000"
		}
		comb(t, "if (a) begin q = 1; r = 2; end else begin q = 2; r = 1; end", value+" 00 0", both)
		comb(t, "if (a) q = 1;", value+" 00 0", one)
		comb(t, "if (a) r = 1; else q = 2;", value+" 00 0", map[bool]string{true: other, false: "10 000"}[taken])
		comb(t, "if (a) begin end else begin end", value+" 00 0", none)
	}
	// its value by itself
	comb(t, "if (a + b) q = 1;", "11 01 0", "00 000")
	comb(t, "if (a + b + 3'b0) q = 1;", "11 01 0", "01 000")
	comb(t, "if (a) if (b) q = 1; else q = 2;", "01 00 0", "10 000")
	comb(t, "if (a) if (b) q = 1; else q = 2;", "00 00 0", "00 000")
	comb(t, "if (a) q = 1; else if (b) q = 2; else if (c) q = 3; else r = 7;", "00 x0 1", "11 000")
	comb(t, "if (a) q = 1; else if (b) q = 2; else if (c) q = 3; else r = 7;", "x0 00 z", "00 111")
	comb(t, "if (a) begin if (b) begin q = 1; if (c) r = 1; end r = r + 1; end else r = 5; r = r + 1;", "01 01 1", "01 011")
	comb(t, "if (a) begin if (b) begin q = 1; if (c) r = 1; end r = r + 1; end else r = 5; r = r + 1;", "01 00 1", "00 010")
	comb(t, "if (a) begin if (b) begin q = 1; if (c) r = 1; end r = r + 1; end else r = 5; r = r + 1;", "00 01 1", "00 110")
}

// Of a case the first arm whose label is the same, byte by byte, else the default.
func TestLw2Case(t *testing.T) {
	body := "case (a) 2'b00: q = 1; 2'b0x: q = 2; 2'bz1: r = 3; 2'b00: r = 7; default: q = 3; endcase"
	for value, want := range map[string]string{"00": "01 000", "0x": "10 000", "z1": "00 011", "01": "11 000", "0z": "11 000", "x1": "11 000", "xx": "11 000"} {
		comb(t, body, value+" 00 0", want)
	}
	without := "case (a) 2'b00: q = 1; 2'b01: begin end 2'b10: begin q = 3; r = 2; end endcase"
	for value, want := range map[string]string{"00": "01 000", "01": "00 000", "10": "11 010", "11": "00 000", "x0": "00 000"} {
		comb(t, without, value+" 00 0", want)
	}
	// the first one of several, whatever they set
	comb(t, "case (c) a[0]: q = 1; b[0]: r = 1; default: q = 2; endcase", "01 01 1", "01 000")
	comb(t, "case (c) a[0]: q = 1; b[0]: r = 1; default: q = 2; endcase", "00 01 1", "00 001")
	comb(t, "case (c) a[0]: q = 1; b[0]: r = 1; default: q = 2; endcase", "00 00 1", "10 000")
	comb(t, "case (c) a[0]: begin end b[0]: r = 1; default: q = 2; endcase", "01 01 1", "00 000")
	comb(t, "case (c) a[0]: begin end b[0]: q = 1; default: q = 2; endcase", "01 00 1", "00 000")
	comb(t, "q = 3; case (c) a[0]: begin end b[0]: q = 1; default: begin end endcase", "00 01 1", "01 000")
	comb(t, "q = 3; case (c) default: q = 1; endcase r = q;", "00 01 1", "01 001")
	comb(t, "q = 3; case (c) endcase r = q;", "00 01 1", "11 011")
	comb(t, "q = 3; case (c) default: begin end endcase r = q;", "00 01 1", "11 011")
	comb(t, "q = 3; case (c) 1: begin case (a) 1: q = 2; 2: r = 5; endcase end default: q = 1; endcase", "01 01 1", "10 000")
	comb(t, "q = 3; case (c) 1: begin case (a) 1: q = 2; 2: r = 5; endcase end default: q = 1; endcase", "10 01 1", "11 101")
	comb(t, "q = 3; case (c) 1: begin case (a) 1: q = 2; 2: r = 5; endcase end default: q = 1; endcase", "10 01 0", "01 000")
}

// Both the value and a label are as wide as the wider one of the two, whatever other labels there are.
func TestLw2CaseWidths(t *testing.T) {
	comb(t, "case (a) 4'b0001: q = 1; 1'b1: q = 2; endcase", "01 00 0", "01 000")
	comb(t, "case (a) 4'b0011: q = 1; 1'b1: q = 2; endcase", "01 00 0", "10 000")
	comb(t, "case (a) 4'bxx01: q = 1; 1'b1: q = 2; endcase", "01 00 0", "10 000")
	comb(t, "case (a + b) 2'b00: q = 1; 3'b100: q = 2; endcase", "11 01 0", "01 000")
	comb(t, "case (a + b) 3'b000: q = 1; 3'b100: q = 2; 2'b00: q = 3; endcase", "11 01 0", "10 000")
	comb(t, "case (a + b) 3'b000: q = 1; 2'b00: q = 3; 3'b100: q = 2; endcase", "11 01 0", "11 000")
	comb(t, "case (~a) 3'b010: q = 1; 3'b110: q = 2; endcase", "01 00 0", "10 000")
	comb(t, "case (a) ~c: q = 1; default: q = 2; endcase", "11 00 0", "01 000")
	comb(t, "case (a) ~c: q = 1; default: q = 2; endcase", "01 00 0", "10 000")
	comb(t, "case (a) c + c: q = 1; default: q = 2; endcase", "10 00 1", "01 000")
	comb(t, "case ((a + b) >> 1) 3'b011: q = 1; 2'b01: q = 2; 4'b0: q = 3; endcase", "11 11 1", "01 000")
	comb(t, "case ((a + b) >> 1) 4'b0: q = 3; 2'b01: q = 2; 3'b011: q = 1; endcase", "11 11 1", "10 000")
	comb(t, "case ((a + b) >> 1) 4'b0: q = 3; 3'b010: q = 1; 2'b00: q = 2; endcase", "11 01 1", "01 000")
	// a sum is x in all bits also by what a narrower one does not have
	comb(t, "case (((a + b) & ~2'b11) + 1) 2'b01: q = 1; 2'bxx: q = 2; 32'bx: q = 3; endcase", "1x 01 1", "11 000")
	comb(t, "case (((a + b) & ~2'b11) + c) 2'b01: q = 1; 2'bxx: q = 2; 3'bxxx: q = 3; endcase", "1x 01 1", "01 000")
	comb(t, "case (((a + b) & ~2'b11) + c) 2'bxx: q = 2; 3'bxxx: q = 3; 2'b01: q = 1; endcase", "1x 01 1", "11 000")
}

// What a value is at the width of one label, and not where it is cut out of what it is at that of a wider one.
func TestLw2CaseNotCut(t *testing.T) {
	for _, c := range []struct{ value, inputs, label string }{
		{"(a + a) >> 1", "11 00 0", "01"}, {"((a + a) >> 1) & 2'b11", "11 00 0", "01"}, {"2'b11 & ((a + a) >> 1)", "11 00 0", "01"}, {"2'b00 | ((a + a) >> 1)", "11 00 0", "01"}, {"((a + a) >> 1) ^ b", "11 00 0", "01"},
		{"~((a + a) >> 1)", "11 00 0", "10"}, {"((a + a) >> 1) << c", "11 00 0", "01"}, {"c ? (a + a) >> 1 : a", "11 00 1", "01"}, {"c ? a : (a + a) >> 1", "11 00 0", "01"}, {"((a + a) >> 1) + c", "11 00 0", "01"}, {"c - ((a + a) >> 1)", "11 00 0", "11"}, {"-((a + a) >> 1)", "11 00 0", "11"},
		{"-((a + b) & ~2'b11)", "1x 01 0", "00"}, {"((a + b) | 2'b11) + c", "1x 01 1", "00"}, {"(c ? ~2'b11 : 2'b00) + 1'b1", "00 00 x", "01"}, {"c + ((a + b) & ~2'b11)", "1x 01 1", "01"}, {"((a + b) & ~2'b11) - c", "1x 01 1", "11"}, {"(a << 1'b1) + c", "x0 00 1", "01"}, {"~((a << 1'b1) + c)", "x0 00 1", "10"}, {"(((a << 1'b1) + c) & b)", "x0 11 1", "01"}, {"(((a << 1'b1) + c) ^ b)", "x0 00 1", "01"},
	} {
		for _, wider := range []string{"3'b111", "4'b0001", "256'bz"} {
			comb(t, "case ("+c.value+") "+wider+": q = 2; 2'b"+c.label+": q = 1; default: q = 3; endcase", c.inputs, "01 000")
			comb(t, "case ("+c.value+") 2'b"+c.label+": q = 1; "+wider+": q = 2; default: q = 3; endcase", c.inputs, "01 000")
		}
	}
}

const ports = "module m(input c, input [1:0] a, output reg [1:0] q, output reg [1:0] r); "

// Of an always with a clock all see what was ahead of the rise; a clock's lowest bit rises.
func TestLw2Clock(t *testing.T) {
	waveIs(t, ports+"always @(posedge c) q <= a; endmodule", "q xx; r zz; 3 q 01; 7 q 10", "1 c 0", "1 a 01", "3 c 1", "4 a 10", "5 c 0", "7 c 1")
	waveIs(t, ports+"always @(posedge c) begin q <= a; r <= q; end endmodule", "q xx; r xx; 1 q 01; 3 q 10; 3 r 01", "0 c 0", "0 a 01", "1 c 1", "2 c 0", "2 a 10", "3 c 1")
	waveIs(t, ports+"always @(posedge c) begin q <= a; q <= q + 1; r <= 1; end endmodule", "q xx; r xx; 1 r 01", "0 c 0", "0 a 01", "1 c 1")
	waveIs(t, ports+"always @(posedge c) begin if (a) q <= 2; if (q) r <= 1; else r <= 2; end endmodule", "q xx; r xx; 1 q 10; 1 r 10; 3 r 01", "0 c 0", "0 a 01", "1 c 1", "2 c 0", "3 c 1")
	waveIs(t, ports+"always @(posedge c) begin q <= 1; if (a) q <= 2; end always @(posedge c) case (q) 1: r <= 3; 2: r <= 0; default: r <= 1; endcase endmodule", "q xx; r xx; 1 q 10; 1 r 01; 3 q 01; 3 r 00", "0 c 0", "0 a 01", "1 c 1", "2 c 0", "3 c 1", "2 a 00")
	// a swap
	waveIs(t, ports+"reg go; always @(posedge c) begin go <= 1; if (go) begin q <= r; r <= q; end else begin q <= 1; r <= 2; end end endmodule", "q xx; r xx; 1 q 01; 1 r 10; 3 q 10; 3 r 01; 5 q 01; 5 r 10", "0 c 0", "1 c 1", "2 c 0", "3 c 1", "4 c 0", "5 c 1")
	// what data are when inputs change with the clock
	waveIs(t, ports+"always @(posedge c) q <= a + 1; endmodule", "q xx; r zz; 1 q 11", "0 c 0", "0 a 01", "1 c 1", "1 a 10")
	// rises: 0 to anything else, x and z to 1
	waveIs(t, ports+"always @(posedge c) q <= a; endmodule", "q xx; r zz; 0 q 00; 3 q 11; 5 q 01; 9 q 10", "0 c 1", "0 a 00", "1 c x", "1 a 01", "2 c 0", "2 a 10", "3 c x", "3 a 11", "4 c z", "4 a 00", "5 c 1", "5 a 01", "7 c 0", "8 a 10", "9 c z")
	waveIs(t, ports+"always @(posedge a) q <= a; endmodule", "q xx; r zz; 1 q 01; 4 q 11", "0 a 10", "1 a 01", "2 a 11", "3 a 10", "4 a 11")
	// a clock that a flip-flop drives: its round comes behind
	waveIs(t, ports+"reg k; always @(posedge c) begin k <= 1; q <= a; end always @(posedge k) r <= q; endmodule", "q xx; r xx; 1 q 01; 1 r 01; 3 q 10", "0 c 0", "0 a 01", "1 c 1", "2 c 0", "2 a 10", "3 c 1")
	waveIs(t, ports+"wire k; assign k = ~c; always @(posedge c) q <= a; always @(posedge k) r <= q; endmodule", "q xx; r xx; 1 q 01; 2 r 01; 3 q 10", "0 c 0", "0 a 01", "1 c 1", "2 c 0", "2 a 10", "3 c 1")
	// constants are there ahead of the time 0, and so never rise
	waveIs(t, ports+"wire k; assign k = 1; always @(posedge k) q <= a; endmodule", "q xx; r zz", "0 a 01", "1 a 10")
}

// What goes into a delay comes out later, each change of it.
func TestLw2Delay(t *testing.T) {
	source := "module m(input a, output y, output n); assign #2 y = ~a; assign n = ~y; endmodule"
	waveIs(t, source, "y x; n x; 3 y 1; 3 n 0", "1 a 0")
	waveIs(t, source, "y x; n x; 3 y 1; 3 n 0; 4 y 0; 4 n 1; 5 y 1; 5 n 0; 12 y x; 12 n x", "1 a 0", "2 a 1", "3 a 0", "10 a z")
	waveIs(t, "module m(input a, output y); assign #1 y = 1; endmodule", "y x; 1 y 1")
	waveIs(t, "module m(input a, output y); assign #3 y = a ? 1 : ~y; endmodule", "y x; 4 y 1; 8 y 0; 11 y 1; 14 y 0; 17 y 1; 20 y 0", "1 a 1", "5 a 0")
	waveIs(t, "module m(input [1:0] a, output y, output [3:0] z); assign #1 y = a + 1; assign #2 z = a + a; endmodule", "y x; z xxxx; 2 y 0; 3 z 0110; 5 y x; 6 z xxxx", "1 a 11", "4 a 1x")
	waveIs(t, "module m(input a, output y); wire v; assign #2 v = a; assign #3 y = v; endmodule", "y x; 6 y 1; 7 y 0", "1 a 1", "2 a 0")
	// beyond the horizon
	waveIs(t, "module m(input a, output y, output z); assign #19 y = a; assign #20 z = a; endmodule", "y x; z x; 20 y 1", "1 a 1")
	// a delay as a clock, and a clock's data
	waveIs(t, "module m(input c, input a, output reg q); wire k; assign #2 k = c; always @(posedge k) q <= a; endmodule", "q x; 5 q 0", "1 c 0", "3 c 1", "3 a 1", "4 a 0", "6 a 1")
}

// Ahead of the time 0 inputs, flip-flops and delays are x; what follows is by what goes in.
func TestLw2First(t *testing.T) {
	waveIs(t, "module m(input a, output reg q, output y, output v, output [1:0] w, output o, output reg k); assign #1 y = 0; assign v = 1; assign w = a & 0; always @(*) if (a) k = 0; else k = 1; always @(posedge a) q <= 1; endmodule", "q x; y x; v 1; w 00; o z; k 1; 1 y 0")
	waveIs(t, "module m(input a, output y); assign y = a; endmodule", "y x; 0 y 1", "0 a 1")
}

// Instances and fors are no more than their processes.
func TestLw2Instances(t *testing.T) {
	adder := "module bit(input a, input b, input c, output s, output d); assign s = a ^ b ^ c; assign d = a & b | a & c | b & c; endmodule "
	source := adder + "module m(input [2:0] a, input [2:0] b, output [3:0] s); wire [3:0] c; wire x0, x1, x2, d0, d1, d2; bit u0 (.a(a[0]), .b(b[0]), .c(0), .s(x0), .d(d0)); bit u1 (.a(a[1]), .b(b[1]), .c(d0), .s(x1), .d(d1)); bit u2 (.a(a[2]), .b(b[2]), .c(d1), .s(x2), .d(d2)); assign s = {d2, x2, x1, x0}; endmodule"
	waveIs(t, source, "s xxxx; 1 s 1000; 2 s 1110; 3 s xxx0", "1 a 101", "1 b 011", "2 a 111", "2 b 111", "3 a 1x1", "3 b 001")
	chain := "module st(input c, input d, output reg q); always @(posedge c) q <= d; endmodule module m(input c, input d, output y, output z); wire w; st u (.c(c), .d(d), .q(w)); st v (.c(c), .d(w), .q(y)); for (i = 0; i < 2; i = i + 1) begin : g wire t; assign #(i + 1) t = d; end endmodule"
	waveIs(t, chain, "y x; z z; 3 y 1; 5 y 0", "0 c 0", "0 d 1", "1 c 1", "2 c 0", "2 d 0", "3 c 1", "4 c 0", "5 c 1")
}
