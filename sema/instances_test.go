package sema_test

import (
	"silkworm/api"
	"testing"
)

func TestSm1InstancesOfModules(t *testing.T) {
	accepted(t, "n u ();", "e u ();", "n u1 (); n u2 (); e u3 ();", loop("i", "f", "n u (.i(i), .o(c)); wire c;"), "m u ();", "m u (.a(b));", loop("i", "f", "m u (.y(c)); wire c;"))
	refused(t, api.ErrModule, "$k u ();", "$k #(.h(g)) u (.h(g), .h(g));", "$u u ();", "$w u1 ();", "$P u ();", "$N u ();", loop("i", "f", "$k u ();"), loop("i", "f", "$f u ();"), loop("i", "f", "$i u ();"), "n u (); $k u1 ();")
	sourceIs(t, "module m(input a); n u (.i(a)); endmodule module n(input i); o v (.j(i)); endmodule module o(input j); endmodule", api.OK)
	sourceIs(t, "module o(input j); endmodule module n(input i); o v (.j(i)); endmodule module m(input a); n u (.i(a)); endmodule", api.OK)
	sourceIs(t, "module m(); $n u (); endmodule", api.ErrModule)
	// A module that stands within itself is none of this layer's.
	sourceIs(t, "module m(input a); n u (.a(a)); endmodule module n(input a); m v (.a(a)); endmodule", api.OK)
}

func TestSm1InstanceParams(t *testing.T) {
	accepted(t, "n #(.N(1)) u ();", "n #(.M(1), .N(k)) u (.i(a));", "m #(.P(2)) u ();", "n #(.N(k[h]), .M(g)) u ();")
	refused(t, api.ErrWord, "n #($.k(1)) u ();", "n #(.N(1), $.k(1)) u (.k(h));", "n #(.N(1), $.N(1)) u ();", "n #(.N(1), .M(2), $.N(1), .k(1)) u ();", "n #($.i(1)) u ();", "n #($.o(1), .N(1)) u ();", "m #($.L(1)) u ();", "e #($.N(1)) u ();", "n #($.u(1)) u ();", "n #($.n(1)) u ();", "n #(.N(1), $.P(1)) u (.k(a));", loop("i", "f", "n #($.i(1)) u (.k(h));"), "m #(.P(1), $.w(2)) u ();")
}

func TestSm1InstancePorts(t *testing.T) {
	accepted(t, "n u (.i(a), .j(b), .o(w), .t(v), .p(y));", "n u (.o(w), .i(w));", "n u (.i(k0), .j(k0 + 1)); wire k0;", "n u (.i(1), .j(P));")
	refused(t, api.ErrPort, "n u ($.k(a));", "n u (.i(a), $.k(a));", "n u (.i(a), $.i(b));", "n u (.i(a), .j(b), $.i(h));", "n u (.o(w), $.o(v));", "n u (.o(w), $.o(k + 1));", "n u (.p(w), $.p(w));", "n u ($.N(1));", "e u ($.i(a));", "m u ($.w(a));", "m u (.a(a), $.L(a));", "n u ($.u(a));", "n u ($.k(h), .i(g));", "n #(.N(1)) u ($.M(a));", loop("i", "f", "n u (.i(i), $.f(i));"))
	// Bind by bind, each with its value.
	refused(t, api.ErrWord, "n u (.i($k), .k(h));", "n u (.i($k), .i(h));", "n u (.o($k), .k(h));", "n #(.N(1), $.k(1)) u (.k(h), .i(g));")
	refused(t, api.ErrTarget, "n u ($.o(a), .k(h));", "n u ($.o(1), .o(w));")
	refused(t, api.ErrDrive, "n u (.o(w), $.t(w), .k(h));")
	refused(t, api.ErrPort, "n u (.i(a), $.k(h), .j(g), .o(1));")
}

func TestSm1InstanceOutputs(t *testing.T) {
	for _, port := range []string{"o", "t", "p"} {
		out := func(value string) string { return "n u ($." + port + "(" + value + "));" }
		refused(t, api.ErrTarget, out("1"), out("w[0]"), out("w[1:0]"), out("{w}"), out("{w, v}"), out("~w"), out("w + v"), out("a ? w : v"), out("k[0]"), out("k + h"), out("{k}"), out("k[h:g]"), out("4'bx"))
		refused(t, api.ErrTarget, out("a"), out("clk"), out("q"), out("s"), out("P"), out("L"), out("u"), "e c (); "+out("c"), loop("i", "f", "")+out("f"), loop("i", "f", out("w")), loop("i", "f", out("y")), loop("i", "f", out("i")), loop("i", "f", out("f")), loop("i", "f", out("u")), loop("i", "f", "wire c; "+loop("j", "d", out("c"))), loop("w", "f", out("w")))
		refused(t, api.ErrWord, "n u (."+port+"($k));", "n u (.i(a), ."+port+"((($k))));", "n u (."+port+"($m));", "n u (."+port+"($N));", loop("i", "f", "wire c;")+"n u (."+port+"($c));", loop("i", "f", "n u (."+port+"($k));"))
		accepted(t, "n u (."+port+"(w));", "n u (."+port+"((w)));", "n u (.i(w), ."+port+"(y));", loop("i", "f", "wire c; n u (."+port+"(c));"), loop("i", "f", "wire w; n u (."+port+"(w));")+"assign w = a;")
	}
	// An input's value may be any, an output's name alone.
	accepted(t, "n u (.i(q), .j(s[a] + {w, 1}));")
	refused(t, api.ErrTarget, "n u (.i(q + s), $.o(s));", "n u (.i(w), $.o((w + 1)));")
}

// Which port of a name counts, if there are two: the first one, until the module's own names are come to.
func TestSm1InstancesOfModulesThatAreRefused(t *testing.T) {
	sourceIs(t, "module m(input a); n u (.c(a)); endmodule module n(input c, $output c); endmodule", api.ErrTwice)
	sourceIs(t, "module m(input a); n u ($.c(a)); endmodule module n(output c, input c); endmodule", api.ErrTarget)
	sourceIs(t, "module n #(parameter N = 1, parameter $N = 2) (); endmodule module m(); n #(.N(1), .N(2)) u (); endmodule", api.ErrTwice)
	sourceIs(t, "module m(); n #(.N(1)) u ($.k(1)); endmodule module n #(parameter N = 1) (input a, input a); endmodule", api.ErrPort)
	sourceIs(t, "module m(input a); n u (.c(a)); endmodule module n(input c); $wire c; endmodule", api.ErrTwice)
	// A parameter that was bound ahead is no port that was.
	sourceIs(t, "module m(input a); n #(.c(1)) u (.c(a)); endmodule module n #(parameter c = 1) ($input c); endmodule", api.ErrTwice)
}

func TestSm1Fors(t *testing.T) {
	accepted(t, loop("i", "f", ""), loop("i", "f", "wire c; assign c = i;"), loop("i", "f", loop("i", "f", loop("i", "f", "wire c; assign c = i;"))), loop("i", "f", "")+loop("i", "d", ""), loop("a", "b0", "wire b; assign b = a;")+"assign w = a + b;")
	refused(t, api.ErrWord, loop("i", "f", "")+"assign w = $i;", loop("i", "f", loop("j", "d", "")+"wire c; assign c = $j;"), loop("i", "f", "wire c; assign c = $k;")+"assign k = h;", "$assign k = h;"+loop("i", "f", "wire c; assign c = k;"), loop("i", "f", "$assign k = 1;"), loop("i", "f", "localparam c = 1;")+"assign w = $c;")
	// Items in order: those within a for where it stands.
	refused(t, api.ErrTarget, loop("i", "f", "$assign a = 1;")+"assign k = 1;", loop("i", "f", loop("i", "d", "$assign a = 1;")+"assign k = 1;")+"assign h = 1;")
	refused(t, api.ErrWord, loop("i", "f", "wire c; assign c = 1;"+loop("i", "d", "")+"$assign k = 1;")+"assign a = 1;")
	refused(t, api.ErrDrive, loop("i", "f", "wire c; assign c = 1; $assign c = 2;")+"assign a = 1;", "assign w = 1;"+loop("i", "f", "wire w; assign w = 1;")+"$assign w = 2;")
}

// wrongItems is items of which each is refused by itself, and of which two have nothing to do with each other.
func wrongItems() map[string]api.Errno {
	return map[string]api.Errno{
		"$assign k = a;": api.ErrWord, "assign y = $k;": api.ErrWord, "$assign a = b;": api.ErrTarget, "assign z = a; $assign z = a;": api.ErrDrive, "$always @(posedge k) begin end": api.ErrWord, comb("$k = a;"): api.ErrWord, comb("$a = b;"): api.ErrTarget, comb("$q <= b;"): api.ErrBlock, clock("$q = b;"): api.ErrBlock, comb("if ($k) begin end"): api.ErrWord, comb("case (a) $k: begin end endcase"): api.ErrWord, "$" + comb("if (a) r = b;"): api.ErrLatch, comb("s = $s;"): api.ErrLatch,
		"$k x1 ();": api.ErrModule, "n #($.k(1)) x2 ();": api.ErrWord, "n x3 ($.k(a));": api.ErrPort, "n x4 (.i($k));": api.ErrWord, "n x5 ($.o(1));": api.ErrTarget, "n x6 ($.o(a));": api.ErrTarget, "n x7 (.o($k));": api.ErrWord, "n x8 (.o(w), $.t(w));": api.ErrDrive, loop("i", "x9", "wire c; $wire c;"): api.ErrTwice, loop("i", "x10", "$assign w = a;"): api.ErrTarget, loop("i", "x11", "reg c; $"+comb("if (a) c = 1;")): api.ErrLatch,
	}
}

// The first item that is refused is told, in the first module that is.
func TestSm1FirstReason(t *testing.T) {
	for first, code := range wrongItems() {
		refused(t, code, first)
		for second := range wrongItems() {
			if first == second {
				continue
			}
			second, _ = marked(second)
			refused(t, code, first+" "+second, first+" wire d; "+loop("j", "f", "")+second, loop("l", "d", "wire w, v, y, z; reg q, r, s;"+first+" "+second))
			sourceIs(t, before+first+" endmodule module o(input a, input b, input clk, output y, output z, output reg q, output reg r); wire w; reg s; "+second+behind, code)
			// But for a name that is there twice, in the module of both.
			clean, _ := marked(first)
			refused(t, api.ErrTwice, clean+" "+second+" $wire w;")
		}
	}
}
