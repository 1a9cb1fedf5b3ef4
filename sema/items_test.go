package sema_test

import (
	"silkworm/api"
	"strings"
	"testing"
)

func TestSm1AssignTargets(t *testing.T) {
	accepted(t, "assign y = a;", "assign w = a; assign v = b;", "assign #3 y = a;", loop("i", "f", "wire c; assign c = a;"), loop("i", "f", "wire w; assign w = a;")+"assign w = b;")
	refused(t, api.ErrWord, "$assign k = a;", "$assign k = h;", "$assign m = a;", "$assign n = a;", "$assign N = a;", "$assign o = a;", "$assign #1 k = a;", loop("i", "f", "wire c;")+"$assign c = a;", loop("i", "f", "")+"$assign i = a;", loop("i", "f", "$assign k = a;"), loop("i", "f", loop("j", "d", "wire c;")+"$assign c = a;"), loop("i", "f", "wire c;")+loop("i", "d", "$assign c = a;"))
	// A name, but no wire.
	refused(t, api.ErrTarget, "$assign a = b;", "$assign clk = b;", "$assign q = a;", "$assign s = a;", "$assign P = a;", "$assign L = a;", "e u (); $assign u = a;", loop("i", "f", "")+"$assign f = a;", loop("i", "f", "$assign i = a;"), loop("i", "f", "reg c; $assign c = a;"), loop("i", "f", "localparam c = 1; $assign c = a;"), "$assign a = k;")
	// A wire, but of a scope around.
	refused(t, api.ErrTarget, loop("i", "f", "$assign w = a;"), loop("i", "f", "$assign y = a;"), loop("i", "f", "wire c; "+loop("j", "d", "$assign c = a;")), loop("i", "f", "$assign f = a;"), loop("i", "f", "$assign a = b;"), loop("i", "f", loop("j", "d", "$assign w = a;")))
	// A wire of a scope around that is hidden here by what is none.
	refused(t, api.ErrTarget, loop("w", "f", "$assign w = a;"), loop("i", "f", "reg w; $assign w = a;"), loop("i", "f", "e y (); $assign y = a;"), loop("i", "f", loop("j", "w", "")+"$assign w = a;"))
}

// drivers is items that drive the wire c of their scope.
func drivers() []string {
	return []string{"assign c = a;", "assign #2 c = b;", "n u1 (.o(c));", "n u2 (.p(c), .i(a));", "n #(.N(1)) u3 (.i(b), .t(c));"}
}

// Places of ErrDrive in these: an assign's is its own, an instance's its bind's.
func markedDrivers() []string {
	return []string{"$assign c = a;", "$assign #2 c = b;", "n u4 ($.o(c));", "n u5 ($.p(c), .i(k));", "n #(.N(1)) u6 (.i(b), $.t(c));"}
}

func TestSm1DrivenTwice(t *testing.T) {
	for _, first := range drivers() {
		accepted(t, "wire c; "+first, first+" wire c;", loop("i", "f", "wire c; "+first), "wire c; "+first+loop("i", "f", "wire c; "+first+loop("j", "f", "wire c; "+first)))
		for _, second := range markedDrivers() {
			refused(t, api.ErrDrive, "wire c; "+first+second, "wire c; "+first+" assign w = a; "+second+" assign w = b;", loop("i", "f", "wire c; "+first+second), "wire c; "+first+loop("i", "f", "wire c; "+first)+second)
			sourceIs(t, "module m(input a, input b, output c); "+first+second+behind, api.ErrDrive)
		}
	}
	refused(t, api.ErrDrive, "assign w = a; $assign w = a;", "n u (.o(w), $.t(w));", "n u (.o(w), $.p(w));", "assign w = a; assign v = a; $assign v = b; assign w = b;", "assign w = w; $assign w = k;")
	// Regs: of always, once more by each.
	for _, first := range []string{comb("c = a;"), clock("c <= a;"), comb("c = a; c = b;"), clock("if (a) c <= b;"), comb("d = a; c = d;")} {
		for _, second := range []string{"$" + comb("c = a;"), "$" + clock("c <= a;"), "$" + comb("s = c; c = b;"), "$" + clock("if (a) begin s <= a; c <= b; end"), "$" + comb("if (a) c = b;")} {
			refused(t, api.ErrDrive, "reg c, d; "+first+second, loop("i", "f", "reg c, d, s; "+first+second), "reg c, d; "+first+loop("i", "f", "reg c, d; "+first)+second)
		}
	}
	// What the other kind of driver may not drive is told so, driven or not.
	refused(t, api.ErrTarget, clock("q <= a;")+"$assign q = a;", clock("q <= a;")+"n u ($.o(q));", "assign w = a; "+comb("$w = a;"), "n u (.o(w)); "+clock("$w <= a;"))
	// Each module, and each for, has its own.
	sourceIs(t, "module m(output c); assign c = 1; endmodule module n(output c); assign c = 1; endmodule", api.OK)
	accepted(t, loop("i", "f", "wire c; assign c = a;")+loop("i", "d", "wire c; assign c = a;"))
}

// values is expressions that are looked at, each with a name that is none at its mark, or with none.
func values() map[string]api.Errno {
	return map[string]api.Errno{
		"1": api.OK, "4'b1x0z": api.OK, "a": api.OK, "P + L": api.OK, "q[P]": api.OK, "w[s + 1]": api.OK, "{a, {b, q[1:0]}, 1}": api.OK, "~a ? !b : -q": api.OK, "&a | |b ^ ^q": api.OK, "P[1]": api.OK, "L[a:b]": api.OK, "a[k:h]": api.OK, "a[k + h[g]:g]": api.OK, "{a[k:0], b[0:k]}": api.OK,
		"$k": api.ErrWord, "$k[a]": api.ErrWord, "$k[h]": api.ErrWord, "a[$k]": api.ErrWord, "a[b + $k[h]]": api.ErrWord, "$k[1:0]": api.ErrWord, "$k[h:g]": api.ErrWord, "{$k, h}": api.ErrWord, "{a, $k}": api.ErrWord, "{{a, $k}, h}": api.ErrWord, "a + $k": api.ErrWord, "$k + h": api.ErrWord,
		"a ? $k : h": api.ErrWord, "$k ? h : g": api.ErrWord, "a ? b : $k": api.ErrWord, "(a ? b : $k) + h": api.ErrWord, "~$k": api.ErrWord, "!$k": api.ErrWord, "-$k": api.ErrWord, "&$k": api.ErrWord, "|$k": api.ErrWord, "^$k": api.ErrWord, "a << $k": api.ErrWord, "a == $k": api.ErrWord, "a && $k": api.ErrWord, "a || ($k || h)": api.ErrWord,
		"a[k:h] + $k": api.ErrWord, "a[$k] + h": api.ErrWord, "$m": api.ErrWord, "$n": api.ErrWord, "$N": api.ErrWord, "$o": api.ErrWord, "$u0": api.ErrWord, "$u0[1]": api.ErrWord, "a + $u0[1:0]": api.ErrWord, "$f0": api.ErrWord, "a[$f0]": api.ErrWord, "$i0": api.ErrWord, "$c0": api.ErrWord,
	}
}

// Each place at which an expression is looked at.
func TestSm1Values(t *testing.T) {
	around := "e u0 (); " + loop("i0", "f0", "wire c0;")
	for x, code := range values() {
		for _, place := range []string{
			"assign y = %;", "assign #k y = %;", "reg c; always @(*) c = %;", "reg c; always @(posedge clk) c <= %;", "always @(*) if (%) begin end", "always @(posedge clk) if (%) begin end else begin end", "always @(*) case (%) endcase", "always @(*) case (a) %: begin end endcase",
			"always @(posedge clk) case (a) 1: begin end %: begin end default: begin end endcase", "n u (.i(%));", "n u (.o(y), .j(%));", "reg c; always @(*) if (a) case (b) 1: c = %; default: c = 0; endcase else c = 1;", "reg c; always @(*) if (a) c = 1; else begin c = 2; c = %; end", "reg c; always @(*) case (a) default: c = %; endcase",
			loop("j", "f", "wire c; assign c = %;"), loop("j", "f", loop("l", "f", "n u (.i(%));")),
		} {
			itemsAre(t, around+strings.Replace(place, "%", x, 1), code)
		}
	}
	// What is hidden by a name without value has none, what is hidden by another one has.
	refused(t, api.ErrWord, loop("j", "f", "e w (); wire c; assign c = $w;"), loop("j", "f", loop("l", "a", "wire c; assign c = b + $a;")), loop("j", "f", "wire c; assign c = j + $f;"))
	accepted(t, loop("j", "f", "wire c; wire f; assign c = j + f;"), loop("a", "f", "wire c; assign c = a + b;"), "e u1 (); "+loop("u1", "f", "wire c; assign c = u1 + 1;"), loop("i", "f", "localparam d = 1; "+loop("j", "g", "wire c; assign c = d[0] + i + j + w + P + L + a + q;")))
}

func TestSm1ValuesBehindTargets(t *testing.T) {
	refused(t, api.ErrWord, "$assign k = h;", "assign y = $k; assign y = k;")
	refused(t, api.ErrTarget, "$assign a = k;")
	refused(t, api.ErrDrive, "assign y = a; $assign y = k;")
	refused(t, api.ErrWord, comb("$k = h;"))
	refused(t, api.ErrTarget, comb("$a = k;"), clock("$w <= k;"))
	refused(t, api.ErrBlock, comb("$k <= h;"), clock("$k = h;"), comb("$a <= k;"), clock("$a = k;"))
}

// Constant places are not looked at.
func TestSm1ConstantPlaces(t *testing.T) {
	for _, x := range []string{"k", "k + h", "k[h:g]", "k[1]", "u", "{k, q}", "q", "c"} {
		sourceIs(t, "module m #(parameter P = "+x+", parameter Q = "+x+") (input ["+x+":0] a, output [0:"+x+"] y, output reg ["+x+":"+x+"] r); wire ["+x+":"+x+"] w; reg [1:"+x+"] q; localparam L = "+x+"; assign #("+x+") y = a;"+
			"for (i = "+x+"; "+x+"; i = "+x+") begin : f localparam M = "+x+"; wire ["+x+":0] d; end n #(.N("+x+"), .M("+x+")) u (.i(a["+x+":0]));"+behind, api.OK)
	}
	// What an always without a clock assigns may stand there, ahead of being sure.
	accepted(t, comb("q = a[q:q];"), comb("if (a[q:0]) q = b; else q = a;"), comb("case (a[q:0]) b[q:q]: q = 1; default: q = 0; endcase"))
}

func TestSm1Clocks(t *testing.T) {
	for _, c := range []string{"clk", "a", "y", "q", "w", "s", "r"} {
		accepted(t, "always @(posedge "+c+") r <= a;", loop("i", "f", "reg c; always @(posedge "+c+") c <= a;"), "always @(posedge "+c+") begin end")
	}
	for _, c := range []string{"k", "P", "L", "m", "n", "N", "o", "u", "f", "i"} {
		refused(t, api.ErrWord, "e u (); "+loop("i", "f", "")+"$always @(posedge "+c+") k = h;", "e u (); "+loop("i", "f", "$always @(posedge "+c+") k = h;"))
	}
	refused(t, api.ErrWord, loop("clk", "f", "$always @(posedge clk) begin end"), loop("i", "f", "e clk (); $always @(posedge clk) begin end"), loop("i", "f", "wire c;")+"$always @(posedge c) begin end")
	accepted(t, loop("i", "f", "wire P; always @(posedge P) begin end"), loop("i", "f", "wire c; always @(posedge c) begin end"))
}

func TestSm1AlwaysTargets(t *testing.T) {
	accepted(t, comb("q = a;"), comb("s = a; r = s;"), clock("q <= a; s <= b;"), loop("i", "f", "reg c; "+comb("c = a;")), loop("i", "f", "reg q; "+clock("q <= a;"))+clock("q <= a;"), comb("q = a; q = b; if (a) q = 1;"), clock("q <= a; q <= b; if (a) q <= 1;"), comb(""), clock(""))
	within := []string{"%", "if (a) %", "if (a) begin end else %", "case (a) 1: % endcase", "case (a) 1: begin end default: % endcase", "if (a) if (b) begin end else case (a) b: begin % end endcase", "begin begin % end end"}
	for _, w := range within {
		in := func(s string) string { return strings.Replace(w, "%", s, 1) }
		refused(t, api.ErrBlock, comb(in("$q <= a;")), clock(in("$q = a;")), comb(in("$k <= h;")), clock(in("$a = h;")), clock(in("s <= 1;")+" "+in("$q = a;")))
		refused(t, api.ErrWord, comb(in("$k = h;")), clock(in("$k <= h;")), comb(in("$m = a;")), clock(in("$o <= a;")), loop("i", "f", "reg c;")+clock(in("$c <= a;")), loop("i", "f", comb(in("$k = h;"))))
		refused(t, api.ErrTarget, comb(in("$a = k;")), clock(in("$w <= k;")), comb(in("$y = k;")), clock(in("$P <= k;")), comb(in("$L = k;")), "e u (); "+comb(in("$u = k;")), loop("i", "f", "")+clock(in("$f <= k;")))
		refused(t, api.ErrTarget, loop("i", "f", comb(in("$q = k;"))), loop("i", "f", clock(in("$s <= k;"))), loop("i", "f", "reg c; "+loop("j", "d", clock(in("$c <= k;")))), loop("i", "f", clock(in("$i <= k;"))), loop("q", "f", clock(in("$q <= k;"))), loop("i", "f", "wire q; "+clock(in("$q <= k;"))))
	}
}

// In the order of the statements, all of which are looked at ahead of what the always drives and keeps.
func TestSm1OrderInAnAlways(t *testing.T) {
	refused(t, api.ErrWord, comb("if ($k) h <= g; else g <= h;"), comb("if (a) $k = h; else g <= h;"), comb("if (a) q = 1; else $k = 1; g <= h;"), comb("case ($k) h: g <= h; endcase"), comb("case (a) $k: g <= h; endcase"), comb("case (a) 1: $k = 2; h: g <= h; endcase"), comb("case (a) 1: q = 2; $h: g <= h; default: g <= h; endcase"), comb("case (a) default: $k = 1; endcase g <= h;"))
	refused(t, api.ErrBlock, comb("$h <= g; if (k) g <= h;"), comb("if (a) $h <= g; else k = 1;"), comb("if (a) q = b; else $h <= g; k = 1;"), comb("case (a) 1: $h <= g; k: k = 1; endcase"), comb("case (a) 1: q = 1; default: $g <= 1; endcase k = 1;"))
	// Behind all of them ErrDrive, and behind that ErrLatch.
	refused(t, api.ErrWord, clock("q <= a;")+comb("q = q; r = $k;"), clock("q <= a;")+clock("q <= $k;"), comb("q = q; if (a) r = s; r = $k;"))
	refused(t, api.ErrBlock, clock("q <= a;")+comb("q = q; $q <= a;"))
	refused(t, api.ErrDrive, clock("q <= a;")+"$"+comb("q = q;"), clock("q <= a;")+"$"+comb("if (a) q = b;"), clock("q <= a;")+"$"+comb("r = r; q = 1;"), clock("r <= a;")+"$"+comb("q = q; r = 1;"))
	refused(t, api.ErrLatch, comb("q = $q;")+clock("q <= a;"), comb("q = 1;")+"$"+comb("if (a) r = b;")+comb("q = 2;"))
	refused(t, api.ErrWord, "$always @(posedge k) begin h = g; end")
}
