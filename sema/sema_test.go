package sema_test

import (
	"silkworm/api"
	"testing"
)

func TestSm1Examples(t *testing.T) {
	itemsAre(t, "$always @(*) if (a) q = b;", api.ErrLatch)
	itemsAre(t, "assign y = a; $assign y = b;", api.ErrDrive)
}

func TestSm1Ordinary(t *testing.T) {
	for _, source := range []string{
		"module m(); endmodule",
		"module m(input a, output y); assign y = ~a; endmodule",
		"module add #(parameter N = 4) (input [N-1:0] a, input [N-1:0] b, output [N:0] s); assign #2 s = {1'b0, a} + b; endmodule",
		"module count #(parameter N = 4) (input clk, input reset, output reg [N-1:0] n); localparam ONE = 1; always @(posedge clk) if (reset) n <= 0; else n <= n + ONE; endmodule",
		"module pick(input [1:0] s, input a, input b, output reg y); always @(*) case (s) 0: y = a; 1: y = b; 2: if (a) y = b; else y = ~b; default: begin y = 0; if (a) y = 1; end endcase endmodule",
		"module top(input a, output y); wire w; sub #(.N(3)) u (.a(a), .y(w)); sub v (.y(y), .a(w)); endmodule module sub #(parameter N = 1) (input a, output y); assign y = a; endmodule",
		"module sub(input a, output y); assign y = a; endmodule module top(input a, output y); sub u (.a(~a & 1'b1), .y(y)); endmodule",
		"module m #(parameter N = 4) (input [3:0] a, output [3:0] y); for (i = 0; i < N; i = i + 1) begin : row wire w; for (j = 0; j < i; j = j + 1) begin : col wire x; assign x = a[i] ^ w; end assign w = a[j0]; end localparam j0 = 0; assign y = a; endmodule",
		"module m(input clk, input d, output reg q); reg p; always @(posedge clk) begin p <= d; q <= p; end endmodule",
		"module m(input clk, input d, output y); reg q; wire n; assign y = q; assign n = d ^ q; always @(posedge clk) q <= n; endmodule",
		"module m(); n u (); endmodule module n(input a, output b, output reg c); endmodule",
		"module m(output reg a, output reg b); always @(*) begin a = 0; b = a; a = b; end endmodule",
		"module m(input a); wire x; for (i = 0; i < 2; i = i + 1) begin : c wire x; assign x = a; for (i = 0; i < 2; i = i + 1) begin : d wire x; assign x = i; end end endmodule",
	} {
		sourceIs(t, source, api.OK)
	}
}

func TestSm1ModulesTwice(t *testing.T) {
	for _, source := range []string{
		"module m(); endmodule $module m(); endmodule",
		"module m(); endmodule module n(); endmodule $module n(); endmodule",
		"module m(); endmodule module n(); endmodule $module m(); endmodule module n(); endmodule module m(); endmodule",
		"module m(); endmodule $module m(); endmodule module m(); endmodule",
		// Ahead of whatever else is wrong, in modules ahead too.
		"module m(input a, input a); assign k = h; endmodule module n(); g u (); endmodule $module n(); endmodule",
		"module m #(parameter N = 1, parameter N = 1) (); always @(*) k <= h; endmodule $module m(input a); endmodule",
		"module m(); endmodule $module m(input a, input a); endmodule",
	} {
		sourceIs(t, source, api.ErrTwice)
	}
	sourceIs(t, "module m(); endmodule module M(); endmodule module mm(); endmodule module m_(); endmodule", api.OK)
}

// declaring is items that have the name x in their scope; some of them have names of their own, too.
func declaring(own string) []string {
	return []string{"wire x;", "reg x;", "wire [1:0] " + own + ", x, c" + own + ";", "reg [1:0] x, " + own + ";", "localparam x = 1;", "e x ();", "n #(.N(1)) x (.i(1));", loop(own, "x", ""), loop("x", "x", "wire d;")}
}

func TestSm1NamesTwice(t *testing.T) {
	for _, first := range declaring("f") {
		for _, second := range declaring("g") {
			refused(t, api.ErrTwice, first+" $"+second, first+" wire d; assign k = h; $"+second, first+" $"+second+" wire x;")
		}
		for _, port := range []string{"input x", "output x", "output reg x", "input [1:0] x"} {
			sourceIs(t, "module m(input a, "+port+", output o); wire b; $"+first+behind, api.ErrTwice)
			sourceIs(t, "module m(input a, "+port+", output o); wire b; "+loop("i", "c", first)+behind, api.OK)
		}
		sourceIs(t, "module m #(parameter a = 1, parameter x = 1) (); wire b; $"+first+behind, api.ErrTwice)
		accepted(t, first)
	}
	refused(t, api.ErrTwice, "$wire x, x;", "$reg x, d, x;", "wire x; $wire d, x; wire d;", "$wire d, y;", "$reg y;", "$wire P;", "$reg L;", "$localparam a = 1;", "$localparam L = 2;", "$wire w;", "$reg s;")
	// A name that hides nothing: other modules', and what is no name of this scope.
	accepted(t, "wire m, n, e, N, M, i, j, o;", "n n (.i(a));", "e m (); reg e;", loop("i", "f", "wire f, w, a, P, L, m;")+" wire i;")
}

func TestSm1ParamsAndPortsTwice(t *testing.T) {
	for _, source := range []string{
		"module m #(parameter x = 1, parameter $x = 1) (); endmodule",
		"module m #(parameter x = 1, parameter c = 2, parameter $x = 1, parameter c = 2) (input x, input d, input d); wire x; endmodule",
		"module m #(parameter x = 1) ($input x); endmodule",
		"module m #(parameter x = 1) (input a, $output x, input a); endmodule",
		"module m #(parameter x = 1) (input a, $output reg [3:0] x); endmodule",
		"module m(input x, $input x); endmodule", "module m(input x, $output x); endmodule", "module m(input x, $output reg x); endmodule", "module m(output x, $input x); endmodule", "module m(output reg x, $input [1:0] x); endmodule", "module m(output x, $output x); endmodule",
		"module m(input c, input d, $input d, input c); wire c; assign k = h; endmodule",
		"module m(input c, input d, $input c, input d); endmodule",
		"module m(input c); $wire c; wire c; endmodule",
		// Items ahead of it in the source are behind it in the order.
		"module m #(parameter c = 1) (input d, $input d); wire c; wire d; endmodule",
		"module m(); endmodule module n(input c, $input c); endmodule",
	} {
		sourceIs(t, source, api.ErrTwice)
	}
	sourceIs(t, "module m #(parameter m = 1) (input c, output d, output reg e); endmodule module c #(parameter c = 1) (input m, output d); endmodule", api.OK)
}

func TestSm1NamesOfFors(t *testing.T) {
	for _, x := range declaring("g") {
		refused(t, api.ErrTwice, loop("x", "f", "$"+x), loop("x", "f", "wire d; $"+x+" wire x;"), loop("i", "f", x+" $wire x;"), loop("i", "f", "reg x; $"+x), loop("i", "f", loop("x", "d", "$"+x)), loop("i", "f", loop("j", "d", x+" $localparam x = 1;")))
		// Names of scopes around, and of others, are hidden.
		accepted(t, "wire x; "+loop("i", "f", x), x+loop("i", "f", x), loop("x", "f", loop("i", "d", x)), loop("i", "f", x)+loop("i", "d", x), loop("x", "d", ""), loop("x", "f", loop("x", "d", "")), loop("i", "x", x))
	}
	refused(t, api.ErrTwice, loop("i", "f", "$wire x, x;"), loop("i", "f", "wire i0; $wire i;"), loop("i", "f", "")+"$"+loop("j", "f", ""), loop("i", "f", loop("j", "d", "")+"$"+loop("j", "d", "")), loop("i", "f", "$"+loop("j", "i", "")))
	accepted(t, loop("i", "f", loop("j", "f", loop("f", "i", ""))))
}

// When names are looked at: those of a scope ahead of all of its items, those within a for when it is come to.
func TestSm1WhenNamesAreLookedAt(t *testing.T) {
	twice := "wire x; wire x;"
	refused(t, api.ErrTwice, "assign k = h; wire x; $wire x;", loop("i", "f", twice)+" wire d; $wire d;", loop("i", "f", twice)+"$"+loop("i", "f", twice), loop("i", "f", "assign k = h; wire x; $wire x;"), loop("i", "f", loop("i", "d", twice)+"wire c; $wire c;"))
	refused(t, api.ErrWord, "$assign k = a;"+loop("i", "f", twice), loop("i", "f", "$assign k = a;"+loop("i", "d", twice)))
	refused(t, api.ErrTwice, loop("i", "f", "wire x; $wire x;")+"assign k = a;", loop("i", "f", loop("i", "d", "wire x; $wire x;")+"assign k = a;"))
	// A name counts ahead of its item, too.
	accepted(t, "assign c = d; wire c; assign d = a; wire d;", "always @(*) c = d; reg c; localparam d = 1;", "n u (.o(c), .i(d)); wire c, d;", loop("i", "f", "assign c = d; wire c;")+" wire d;", "always @(posedge c) d <= 1; wire c; reg d;")
	refused(t, api.ErrTarget, loop("i", "f", "$assign c = a;")+" wire c;")
	sourceIs(t, "module m(); $assign k = 1; endmodule module n(input x, input x); endmodule", api.ErrWord)
	sourceIs(t, "module m(input x, $input x); endmodule module n(); assign k = 1; endmodule", api.ErrTwice)
}
