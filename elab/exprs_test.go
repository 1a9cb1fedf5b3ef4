package elab_test

import (
	"reflect"
	"silkworm/api"
	"strconv"
	"strings"
	"testing"
)

// What stands around the value of most tests: nets of the widths 1, 4, 32, 128 and 256, and constants.
const head = "module m #(parameter P = 3, parameter Z = 0, parameter J = -1) (input a, input [3:0] d, input [31:0] w, input [127:0] h, input [255:0] b, output y); localparam L = P + 1; assign y = "

// valueIs tells what a value becomes.
func valueIs(t *testing.T, value, want string) {
	t.Helper()
	procsAre(t, head+value+"; endmodule", "y = "+want)
}

// valueRefused tells that a value is refused at its mark: in an assign, a statement, a label, a bind, and in a for.
func valueRefused(t *testing.T, code api.Errno, list ...string) {
	t.Helper()
	for _, value := range list {
		refusedAt(t, code, head+value+"; endmodule", head+"1; reg q; always @(*) q = "+value+"; endmodule", head+"1; reg q; always @(posedge a) if (a) case (d) 1: q <= 1; "+value+": begin end endcase endmodule", head+"1; always @(*) case ("+value+") endcase endmodule", head+"1; always @(posedge a) if ("+value+") begin end endmodule",
			head+"1; n u (.i("+value+")); endmodule module n(output o, input i); endmodule", head+"1; "+loop("i", 2, "g", "wire v; assign v = "+value+";")+" endmodule")
	}
}

func TestEl1Constants(t *testing.T) {
	for value, want := range map[string]string{
		"P": "3", "Z": "0", "L": "4", "P + L": "(3 + 4)", "d[P]": "d[3]", "d[a]": "d[a]", "{P, L, d}": "{3, 4, d}", "J": "4294967295", "-J": "-4294967295", "J + P": "(4294967295 + 3)", "7": "7", "4'b1x0z": "4'b1x0z", "4294967295": "4294967295", "3'd3": "3'b011", "a": "a",
		"P ? J : {a, L}": "(3 ? 4294967295 : {a, 4})", "~d & !a | ^w": "((~d & !a) | ^w)", "d[d[d[P]]]": "d[d[d[3]]]", "d[P:Z]": "d[3:0]", "d[L - 1:P - 2]": "d[3:1]", "d[1 ? 2 : k:0 ? k : 1]": "d[2:1]",
	} {
		valueIs(t, value, want)
	}
	for n, want := range map[string]string{"-1": "4294967295", "-2147483647": "2147483649", "2147483647": "2147483647", "-2147483646": "2147483650", "0": "0", "-2": "4294967294", "1 << 30": "1073741824", "-(1 << 30)": "3221225472"} {
		procsAre(t, "module m(output y); localparam N = "+n+"; assign y = N; endmodule", "y = "+want)
		procsAre(t, "module m(); for (i = "+n+"; i == ("+n+"); i = i > 0 ? i - 1 : i + 1) begin : g wire w; assign w = i; end endmodule", "g["+builtName(t, n)+"].w = "+want)
	}
}

// builtName is what stands in the brackets of a for that begins with a number.
func builtName(t *testing.T, n string) string {
	t.Helper()
	s := strings.NewReplacer("(1 << 30)", "1073741824", "1 << 30", "1073741824").Replace(n)
	if _, err := strconv.Atoi(s); err != nil {
		t.Fatal(err)
	}
	return s
}

// A constant's number is a plain one; nothing else is left of its name.
func TestEl1ConstantsWhole(t *testing.T) {
	source := "module m #(parameter P = 5) (input [7:0] a, output y); assign y = P + a[P:P - 4]; endmodule"
	at := func(s string) int { return strings.Index(source, s) }
	number := func(n, at int) api.Expr {
		return api.Expr{Op: api.OpNum, Value: strings.Repeat("0", 32-len(strconv.FormatInt(int64(n), 2))) + strconv.FormatInt(int64(n), 2), Plain: true, At: at}
	}
	want := api.Flat{
		Nets: []api.Net{{Name: "a", Wide: 8, Kind: api.NetIn}, {Name: "y", Wide: 1, Kind: api.NetWire}}, Ports: 2,
		Procs: []api.Proc{{Kind: api.ItAssign, Target: 1, Clock: -1, Value: api.Expr{Op: api.OpAdd, At: at("+ a"), Kids: []api.Expr{number(5, at("P + a")), {Op: api.OpPart, Name: "a", At: at("a[P"), Kids: []api.Expr{number(5, at("P:P")), number(1, at("- 4"))}}}}}},
	}
	if f := built(t, source); !reflect.DeepEqual(f, want) {
		t.Errorf("%v, not %v", f, want)
	}
}

func TestEl1Parts(t *testing.T) {
	for _, value := range []string{"d[3:0]", "d[3:3]", "d[0:0]", "d[2:1]", "a[0:0]", "b[255:0]", "b[255:255]", "h[127:127]", "w[31:0]", "w[P:P]", "d[P:0]"} {
		accepted(t, head+value+"; endmodule")
	}
	valueRefused(t, api.ErrIndex, "$d[4:0]", "$d[4:4]", "$d[3:-1]", "$d[0:1]", "$d[2:3]", "$d[-1:-1]", "$d[-1:0]", "$d[0:-1]", "$a[1:0]", "$a[1:1]", "$b[256:0]", "$b[256:256]", "$h[128:0]", "$w[32:31]", "$d[L:0]", "$d[P:L]", "$d[J:J]", "$d[2147483647:0]", "$d[3:2147483647]", "$d[2147483647:2147483647]", "$d[-2147483647:0]", "$d[1 << 30:0]")
	valueRefused(t, api.ErrWord, "d[$k:0]", "d[3:$k]", "d[$k:g]", "d[$a:0]", "d[9:$k]", "d[P + $k:0]", "d[$y:0]")
	valueRefused(t, api.ErrConst, "d[$4'b1x00:0]", "d[$2147483648:0]", "d[3:$~1]", "d[$d[0]:0]", "d[${1, 1}:0]", "d[1:$32'hffffffff]")
	valueRefused(t, api.ErrOver, "d[2147483647 $+ 1:0]", "d[1 $<< 32:k]", "d[3:1 $<< 31]")
	// Of the net that the name is: of an instance, of a for.
	refusedAt(t, api.ErrIndex, "module m(input [7:0] a); n u (); n #(.N(3)) v (); endmodule module n #(parameter N = 4) (input [N:0] a, output y); assign y = $a[4:0]; endmodule", "module m(input [7:0] a); "+loop("i", 2, "g", "wire a, b; assign b = $a[1:0];")+" endmodule", "module m(input [7:0] a, output y); n u (.a($a[8:1])); endmodule module n(input [8:0] a); endmodule")
	accepted(t, "module m(input a); "+loop("i", 2, "g", "wire [7:0] a; wire b; assign b = a[7:0];")+" endmodule")
}

func TestEl1BitsAndPartsOfConstants(t *testing.T) {
	valueRefused(t, api.ErrConst, "$P[0]", "$L[a]", "$P[1:0]", "$J[0:0]", "$P[k:h]", "$L[1 << 31:9]", "{a, $P[0]}", "a ? $P[1:0] : L[0]", "$P[a + 1]", "~$P[0]", "d[$P[0]]")
	refusedAt(t, api.ErrConst, "module m(); "+loop("i", 2, "g", "wire w; assign w = $i[0];")+" endmodule", "module m(); "+loop("i", 2, "g", "wire w; assign w = $i[0:0];")+" endmodule", "module m(input a); "+loop("a", 2, "g", "wire w; assign w = $a[0];")+" endmodule")
	// Of an OpBit its part is ahead of it, of an OpPart it itself is.
	valueRefused(t, api.ErrIndex, "P[$d[9:8]]", "P[P[$a[1:0]]]")
	valueRefused(t, api.ErrConst, "P[$L[0]]", "$P[d[9:8]:0]")
	// Of a net a bit may be any.
	for _, value := range []string{"a[1]", "d[4]", "d[999]", "d[J]", "d[4'bxxxx]", "d[b]", "d[2147483648]"} {
		accepted(t, head+value+"; endmodule")
	}
}

// A part of an expression is ahead of it, the first part ahead of the second one.
func TestEl1PartsAhead(t *testing.T) {
	valueRefused(t, api.ErrIndex, "{b, $a[1:0], b}", "{{a, $d[4:0]}, {b, b}}", "$a[1:0] + {b, b}", "a ? $a[1:0] : {b, b}", "$a[1:0] ? {b, b} : P[0]", "~{$a[1:0], b, a}", "{b, b[$a[1:0]]}", "d[$d[4:0]]", "(a + $d[4:0]) - P[0]", "P[$d[4:0]]")
	valueRefused(t, api.ErrSize, "${b, a} + a[1:0]", "{${b, a}, a[1:0]}", "a ? ${b, a} : P[0]", "d[${b, a}] + P[0]", "{b, ${b, a}}", "-${h, h, a}", "!${h, h, a}")
	valueRefused(t, api.ErrConst, "$P[0] + {b, b}", "{$P[1:0], b, b}", "{b, b, $L[0]}", "$P[0] + P[1]")
}

// widths is expressions with their own widths.
func widths() map[string]int {
	return map[string]int{
		"1": 32, "0": 32, "4294967295": 32, "1'b1": 1, "3'b1x0": 3, "256'h0": 256, "200'd1": 200, "a": 1, "d": 4, "w": 32, "h": 128, "b": 256, "P": 32, "L": 32, "a[0]": 1, "b[7]": 1, "b[w]": 1, "d[2:1]": 2, "d[3:0]": 4, "b[255:1]": 255, "b[P:P]": 1, "w[L:1]": 4,
		"{a}": 1, "{a, d}": 5, "{d, {d, a}, 3'b0}": 12, "{1, a}": 33, "{P, d}": 36, "{b}": 256, "{h, h}": 256,
		"~d": 4, "-d": 4, "~~h": 128, "-1": 32, "!d": 1, "&h": 1, "|d": 1, "^w": 1, "!1": 1,
		"d + a": 4, "a - d": 4, "d + 1": 32, "a & d": 4, "d | w": 32, "d ^ d": 4, "a + b": 256, "P + d": 32, "a ^ a": 1,
		"d << w": 4, "w >> d": 32, "a << b": 1, "1 << a": 32, "b >> a": 256,
		"d < b": 1, "d <= b": 1, "b > d": 1, "b >= b": 1, "w == b": 1, "w != a": 1, "b && d": 1, "d || b": 1,
		"a ? d : w": 32, "w ? d : a": 4, "b ? a : a": 1, "a ? b : a": 256, "a ? P : d": 32, "a ? d : a ? w : a": 32, "(a ? d : a) << b": 4, "~(d + h)": 128, "-(d << b)": 4,
	}
}

// By an OpCat with as many bits as there may be, and one more.
func TestEl1OwnWidths(t *testing.T) {
	for value, wide := range widths() {
		if room := api.MaxWide - wide; room > 0 {
			accepted(t, head+"{"+value+", "+strconv.Itoa(room)+"'b0}; endmodule", head+"{"+strconv.Itoa(room)+"'b0, "+value+"}; endmodule")
		}
		if room := api.MaxWide - wide + 1; room <= api.MaxWide {
			valueRefused(t, api.ErrSize, "${"+value+", "+strconv.Itoa(room)+"'b0}", "a + ${"+strconv.Itoa(room)+"'b0, "+value+"}")
		}
	}
	valueRefused(t, api.ErrSize, "${"+strings.Repeat("a, ", 256)+"a}", "${b, b, b, b}", "${w, w, w, w, w, w, w, w, a}", "${1, 2, 3, 4, 5, 6, 7, 8, P}", "${P, P, P, P, P, P, P, P, a}")
	accepted(t, head+"{"+strings.Repeat("a, ", 255)+"a}; endmodule", head+"{w, w, w, w, w, w, w, w}; endmodule", head+"{P, L, P, J, 1, 2, 3, 4}; endmodule", head+"b + {b}; endmodule")
	// By the width that a net has in its place.
	refusedAt(t, api.ErrSize, "module m(input [63:0] x); n u (.a(x)); n #(.N(64)) v (.a(x)); endmodule module n #(parameter N = 63) (input [N:0] a); wire y; assign y = ${a, a, a, a}; endmodule")
}

// Places are those of the source.
func TestEl2Places(t *testing.T) {
	source := "module n(input a, output reg q, output o); always @(posedge a) if (a) q <= ~a; else case (a) 1: q <= a; default: begin end endcase assign o = a + 1; endmodule module m(input b, output z); wire w; n u (.a(b), .o(z), .q(w)); endmodule"
	m := modulesOf(t, source)
	f := built(t, source)
	// The flat design's values and statements, against the tree's: the names alone are others.
	item, inst := m[0].Items, m[1].Items[1]
	for i, pair := range [][2]any{{f.Procs[3].Body, item[0].Body}, {f.Procs[4].Value, item[1].Value}, {f.Procs[0].Value, inst.Ports[0].Value}} {
		if got, want := places(reflect.ValueOf(pair[0])), places(reflect.ValueOf(pair[1])); !reflect.DeepEqual(got, want) || len(want) == 0 {
			t.Errorf("%d: the places are %v, not %v", i, got, want)
		}
	}
	// An output's is that of its bind, in which its name stands.
	for i, bind := range map[int]string{1: ".q", 2: ".o"} {
		if at := strings.LastIndex(source, bind); f.Procs[i].Value.At != at {
			t.Errorf("%s is at %d, not %d", bind, f.Procs[i].Value.At, at)
		}
	}
}

// places is all places within a value, in order.
func places(v reflect.Value) (list []int) {
	switch v.Kind() {
	case reflect.Slice:
		for i := range v.Len() {
			list = append(list, places(v.Index(i))...)
		}
	case reflect.Struct:
		for i := range v.NumField() {
			if v.Type().Field(i).Name == "At" {
				list = append(list, int(v.Field(i).Int()))
			}
			list = append(list, places(v.Field(i))...)
		}
	}
	return list
}
