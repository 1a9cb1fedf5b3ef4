package elab_test

import (
	"silkworm/api"
	"strconv"
	"strings"
	"testing"
)

func TestEl1Ranges(t *testing.T) {
	netsAre(t, "module m(input [0:0] a, output [255:0] b, input [1:0] c, output reg [3-3+254:1-1] d, input e); wire [255:0] f, g; reg [0:0] h; endmodule", "a:in b<256>:open c<2>:in d<255>:open e:in | f<256>:open g<256>:open h:open")
	for _, bounds := range []string{"256:0", "1:1", "1:2", "0:1", "3:1", "255:255", "255:1", "-1:0", "-1:-1", "1:-1", "0:-1", "-2147483647:0", "2147483647:0", "2147483647:2147483647", "256:1"} {
		for _, place := range []string{"$input %s a", "input b, $output %s a", "output b, input c, $output reg %s a, input [1:2] d"} {
			refusedAt(t, api.ErrRange, "module m("+strings.Replace(place, "%s", "["+bounds+"]", 1)+"); wire [1:2] w; endmodule")
			refusedAt(t, api.ErrRange, "module m(); n u (); endmodule module n("+strings.Replace(place, "%s", "["+bounds+"]", 1)+"); wire [1:2] w; endmodule")
		}
		for _, kind := range []string{"wire", "reg"} {
			refusedAt(t, api.ErrRange, "module m(); wire b; $"+kind+" ["+bounds+"] a, c; wire [1:2] w; endmodule", "module m(); wire b; "+loop("i", 2, "g", "reg c; $"+kind+" ["+bounds+"] a;")+" endmodule")
		}
	}
	// By the number of an instance, or of a turn.
	netsAre(t, "module m(); n #(.N(255)) u (); n #(.N(0)) v (); endmodule module n #(parameter N = 256) (input [N:0] a); endmodule", "u.a<256>:open v.a:open")
	refusedAt(t, api.ErrRange, "module m(); n #(.N(255)) u (); n v (); endmodule module n #(parameter N = 256) ($input [N:0] a); endmodule", "module m(); "+loop("i", 3, "g", "$wire [1-i:0] a;")+" endmodule", "module m(); "+loop("i", 3, "g", "wire a; $wire [3:i>>1] b;")+" endmodule")
}

func TestEl1Delays(t *testing.T) {
	procsAre(t, "module m #(parameter N = 3) (output a, output b, output c, output d, output e); assign #1 a = 1; assign #1048576 b = 1; assign #N c = 1; assign #(N - 2) d = 1; assign e = 1; endmodule", "a #1 = 1", "b #1048576 = 1", "c #3 = 1", "d #1 = 1", "e = 1")
	for _, delay := range []string{"0", "1048577", "(-1)", "(-1048576)", "2147483647", "(1 << 21)", "4'b0000", "(-2147483647)"} {
		refusedAt(t, api.ErrRange, "module m(input a, output y, output z); assign #1 z = a; $assign #"+delay+" y = a[9:8]; assign #0 w = 1; wire w; endmodule", "module m(input a); n u (.y(y)); wire y; endmodule module n(output y); "+loop("i", 1, "g", "wire w; $assign #"+delay+" w = 1;")+" endmodule")
	}
	refusedAt(t, api.ErrRange, "module m(); "+loop("i", 3, "g", "wire w; $assign #(2 - i) w = 1;")+" endmodule")
	netsAre(t, "module m(); "+loop("i", 2, "g", "wire w; assign #(2 - i) w = 1;")+" endmodule", "g[0].w:delay g[1].w:delay")
}

func TestEl1MostNets(t *testing.T) {
	count := func(source string) {
		t.Helper()
		if n := len(built(t, source).Nets); n != api.MaxNets {
			t.Errorf("%.2000q: %d nets", source, n)
		}
	}
	ports, more := "input a"+times(511, ", input a%"), "input a"+times(510, ", input a%")
	names := "w" + times(510, ", w%")
	count("module m(" + ports + "); endmodule")
	count("module m(input b); wire " + names + "; endmodule")
	count("module m(input b); wire w; " + times(510, "reg w%; ") + " endmodule")
	count("module m(); n u (); endmodule module n(" + ports + "); endmodule")
	count("module m(input b); n u (); endmodule module n(input b); wire " + names[:strings.LastIndex(names, ",")] + "; endmodule")
	count("module m(); " + loop("i", 64, "g", "wire a, b, c, d; reg e, f, g, h;") + " endmodule")
	count("module m(); " + loop("i", 64, "g", "wire a, b; n u (); wire c;") + " endmodule module n(input a, output b); wire c; " + loop("j", 2, "h", "wire x;") + " endmodule")
	refusedAt(t, api.ErrSize, "module m("+ports+", $input b, output c); wire [1:2] w; endmodule", "module m("+ports+"); $wire b; wire [1:2] w; endmodule", "module m("+more+"); $wire b, c; wire [1:2] w; endmodule", "module m("+more+"); wire b; $reg [3:0] c; endmodule",
		"module m(); $wire "+names+", x, y; localparam L = k; endmodule", "module m(input b); n u (); endmodule module n("+more+", $output reg [1:0] z); endmodule")
	refusedAt(t, api.ErrSize, "module m(input b); n u (); endmodule module n("+more+"); $wire z; endmodule", "module m(); "+loop("i", 64, "g", "wire a, b, c, d; reg e, f, g, h;")+loop("i", 1, "h", "$wire w;")+" endmodule", "module m(); "+loop("i", 64, "g", "wire a, b, c, d; $reg e, f, g, h, i0;")+" endmodule")
	// A range that may not be comes ahead of it.
	refusedAt(t, api.ErrRange, "module m("+ports+", $input [1:2] b); endmodule", "module m("+ports+"); $wire [1:2] b; endmodule")
	refusedAt(t, api.ErrWord, "module m("+ports+", input [$k:0] b); endmodule", "module m("+ports+"); wire [$k:0] b; endmodule")
	// What has no nets may come behind them.
	accepted(t, "module m("+ports+"); localparam L = 1; e u (); "+loop("i", 2, "g", "e u ();")+" endmodule module e(); endmodule")
}

func TestEl1MostProcesses(t *testing.T) {
	count := func(source string) {
		t.Helper()
		if n := len(built(t, source).Procs); n != api.MaxFlat {
			t.Errorf("%.2000q: %d processes", source, n)
		}
	}
	full := loop("i", 64, "g", "wire a; assign a = 1; reg b; always @(*) b = a; reg c; always @(posedge a) c <= b; always @(*) begin end")
	n := " module n(input x, output y, input z); assign y = x; endmodule"
	count("module m(output o); " + full + " endmodule")
	count("module m(input o); wire w" + times(256, ", w%") + "; " + times(256, "assign w% = 1; ") + " endmodule")
	count("module m(output o); " + loop("i", 64, "g", "wire w; n u (.z(1), .y(w), .x(i));") + " endmodule" + n)
	count("module m(output o); " + times(256, "always @(*) begin end ") + " n1 u (); endmodule module n1(input x); endmodule")
	refusedAt(t, api.ErrSize, "module m(output o); "+full+" $assign o = 1; assign #0 p = 1; wire p; endmodule", "module m(output reg o); "+full+" $always @(*) o = 1; endmodule", "module m(output reg o); "+full+" $always @(posedge o) begin end endmodule",
		"module m(output o); "+full+" $n u (.x(1)); endmodule"+n, "module m(output o); "+full+" $n u (.y(o)); endmodule"+n, "module m(output o); "+full+" n u (); endmodule module n(output y); $assign y = 1; endmodule", "module m(output o); "+full+" n u (); endmodule module n(output reg y); wire w; $always @(*) y = 1; endmodule",
		"module m(output o); "+full+loop("j", 2, "h", "wire w; $assign w = 1;")+" endmodule", "module m(output o); "+loop("i", 64, "g", "wire w; n u (.z(1), .y(w), .x(i));")+" $n v (.z(1)); endmodule"+n, "module m(output o); "+times(254, "always @(*) begin end ")+" wire w; $n u (.x(1), .y(w), .z(o)); endmodule"+n)
	// Ahead of it what its value, its delay, or its statements are refused for.
	refusedAt(t, api.ErrIndex, "module m(input a, output o); "+full+" assign o = $a[1:0]; endmodule", "module m(input a, output reg o); "+full+" always @(*) o = $a[1:0]; endmodule", "module m(input a, output o); "+full+" n u (.x($a[1:0])); endmodule"+n)
	refusedAt(t, api.ErrRange, "module m(output o); "+full+" $assign #0 o = 1; endmodule", "module m(output o); "+full+" n u (.x(1), .z(1)); endmodule module n(input x, $input [1:2] z); endmodule")
	refusedAt(t, api.ErrSize, "module m(input a, output o); "+full+" $n u (.z(a[1:0]), .x(1)); endmodule"+n)
	// An instance that has none may come behind them.
	accepted(t, "module m(output o); "+full+" e u (); endmodule module e(input a, output b); endmodule")
}

func TestEl1MostInstances(t *testing.T) {
	e := " module e(); endmodule module two(); e a (); e b (); endmodule"
	full := loop("i", 64, "g", "e a (); e b (); e c (); e d ();")
	accepted(t, "module m(); "+full+" endmodule"+e, "module m(); "+times(256, "e u% (); ")+" endmodule"+e, "module m(); "+loop("i", 64, "g", "two a (); e b ();")+" endmodule"+e)
	refusedAt(t, api.ErrSize, "module m(); "+full+" $e u (); k0 v (); endmodule module k0(input [1:2] a); endmodule"+e, "module m(); "+times(256, "e u% (); ")+" $e u (); endmodule"+e, "module m(); "+times(255, "e u% (); ")+" two u (); endmodule module e(); endmodule module two(); $e a (); e b (); endmodule", "module m(); "+full+loop("i", 1, "h", "$bad u ();")+" endmodule module bad #(parameter N = k) (); endmodule"+e)
	accepted(t, "module m(); "+full+loop("i", 0, "h", "e u ();")+" endmodule"+e)
}

// chain is modules c1 to cN, each with an instance of the next one; the last one is empty.
func chain(n int, mark string) string {
	var out strings.Builder
	for i := 1; i < n; i++ {
		at := ""
		if i+1 == n {
			at = mark
		}
		out.WriteString(" module c" + strconv.Itoa(i) + "(input a); " + at + "c" + strconv.Itoa(i+1) + " u (.a(a)); endmodule")
	}
	return out.String() + " module c" + strconv.Itoa(n) + "(input a); endmodule"
}

func TestEl1Deepest(t *testing.T) {
	if f := built(t, "module m(input a); c1 u (.a(a)); endmodule"+chain(32, "")); len(f.Nets) != 33 || f.Nets[32].Name != strings.Repeat("u.", 32)+"a" || len(f.Procs) != 32 {
		t.Error(f)
	}
	refusedAt(t, api.ErrModule, "module m(input a); c1 u (.a(a)); endmodule"+chain(33, "$"), "module m(input a); "+loop("i", 2, "g", loop("j", 2, "h", "c1 u (.a(a));"))+" endmodule"+chain(33, "$"), "module m(); $m u (); endmodule", "module m(); wire w; $m u (); m v (); endmodule",
		"module m(); $n u (); endmodule module n(); m u (); endmodule", "module m(); n u (); endmodule module n(); o u (); endmodule module o(); $n u (); endmodule")
	// It stands within itself, as deep as a number says.
	deep := "module m(); r #(.N(%)) u (); endmodule module r #(parameter N = 1) (); for (i = 0; i < N; i = N) begin : g $r #(.N(N - 1)) u (); end endmodule"
	accepted(t, strings.Replace(strings.Replace(deep, "%", "31", 1), "$", "", 1))
	refusedAt(t, api.ErrModule, strings.Replace(deep, "%", "32", 1))
	// Its module is not looked at.
	refusedAt(t, api.ErrModule, "module m(input a); c1 u (.a(a)); endmodule"+strings.Replace(chain(33, "$"), "module c33(input a)", "module c33 #(parameter N = k) (input [1:2] a)", 1))
	// Where it would be one more than there may be as well.
	d := " module d(); endmodule"
	refusedAt(t, api.ErrModule, "module m(); "+times(224, "d e% (); ")+" c1 u (); endmodule"+d+chain(33, "$"), "module m(); "+times(223, "d e% (); ")+" c1 u (); endmodule"+d+chain(33, "$"))
	refusedAt(t, api.ErrSize, "module m(); "+times(225, "d e% (); ")+" c1 u (); endmodule"+d+chain(32, "$"))
}

func TestEl1MostTurns(t *testing.T) {
	for _, head := range []string{"i = 0; i < %; i = i + 1", "i = %; i > 0; i = i - 1", "i = -%; i; i = i + 1", "i = 5; i < (% << 1) + 5; i = i + 2"} {
		of := func(n int, mark, items string) string {
			return mark + "for (" + strings.ReplaceAll(head, "%", strconv.Itoa(n)) + ") begin : g " + items + " end "
		}
		if f := built(t, "module m(); "+of(64, "", "wire w;")+" endmodule"); len(f.Nets) != 64 {
			t.Errorf("%s: %d nets", head, len(f.Nets))
		}
		netsAre(t, "module m(input a); "+of(0, "", "wire w; n u ();")+" endmodule module n(input [1:2] a); endmodule", "a:in |")
		refusedAt(t, api.ErrSize, "module m(); "+of(65, "$", "wire w;")+" endmodule", "module m(); "+loop("j", 2, "h", of(65, "$", ""))+" endmodule", "module m(); n u (); endmodule module n(); "+of(1000, "$", "wire w;")+" endmodule")
	}
	refusedAt(t, api.ErrSize, "module m(); $for (i = 0; 1; i = i) begin : g end endmodule", "module m(); $for (i = 0; i < 1; i = 0) begin : g wire w; end endmodule", "module m(); $for (i = 1; i; i = -i) begin : g end endmodule")
	// Each for has its own turns, whenever it is come to.
	accepted(t, "module m(); "+loop("i", 64, "g", "")+loop("i", 64, "h", "")+loop("i", 3, "f", loop("j", 64, "d", ""))+" endmodule", "module m(); n u (); n v (); endmodule module n(); "+loop("i", 64, "g", "")+" endmodule")
	// What would be its number beyond the last turn is looked at ahead of that.
	refusedAt(t, api.ErrOver, "module m(); for (i = 0; i < 99; i = i + 1 $+ (i == 63 ? 2147483647 : 0)) begin : g end endmodule", "module m(); for (i = 0; (i + 1) $+ (i == 64 ? 2147483647 : 0); i = i + 1) begin : g end endmodule")
	refusedAt(t, api.ErrWord, "module m(); for (i = 0; i < 64 ? 1 : $k; i = i + 1) begin : g end endmodule", "module m(); for (i = 0; 1; i = i < 63 ? i + 1 : $k) begin : g end endmodule")
	refusedAt(t, api.ErrSize, "module m(); $for (i = 0; i < 65 ? 1 : k; i = i + 1) begin : g end endmodule", "module m(); $for (i = 0; 1; i = i < 64 ? i + 1 : k) begin : g end endmodule")
	// A for without a turn has no number of what is next, and no items.
	accepted(t, "module m(); for (i = 0; 0; i = k) begin : g wire [1:2] w; localparam L = k; end endmodule")
}

func TestEl1MostTurnsOfAll(t *testing.T) {
	full := loop("i", 64, "g", loop("j", 63, "h", ""))
	accepted(t, "module m(); "+full+" endmodule", "module m(); "+full+loop("i", 0, "f", "wire [1:2] w;")+" endmodule", "module m(); "+times(64, loop("i", 64, "g%", ""))+" endmodule", "module m(); n u (); endmodule module n(); "+full+" endmodule", "module m(); "+times(64, "n u% (); ")+" endmodule module n(); "+loop("i", 64, "g", "")+" endmodule")
	refusedAt(t, api.ErrSize, "module m(); "+full+" $"+loop("i", 1, "f", "wire [1:2] w;")+" endmodule", "module m(); "+loop("i", 64, "g", "$"+loop("j", 64, "h", ""))+" endmodule", "module m(); n u (); "+loop("i", 0, "f", "")+"$"+loop("i", 2, "e", "")+" endmodule module n(); "+full+" endmodule", "module m(); "+full+" n u (); endmodule module n(); $"+loop("i", 1, "f", "")+" endmodule", "module m(); "+loop("i", 1, "e", "")+loop("i", 64, "g", "$"+loop("j", 63, "h", ""))+" endmodule")
	// Its condition is looked at ahead of that.
	refusedAt(t, api.ErrWord, "module m(); "+full+" for (i = 0; i < $k; i = i + 1) begin : f end endmodule", "module m(); "+full+" for (i = $k; i < 1; i = i + 1) begin : f end endmodule")
}
