package elab_test

import (
	"silkworm/api"
	"strings"
	"testing"
)

// slot is a piece of a source: as it is accepted, and with faults, each with its mark and its code.
type slot struct {
	name, good string
	faults     map[string]api.Errno
}

// ofConstant is a slot for a number.
func ofConstant(name, good string) slot {
	return slot{name, good, map[string]api.Errno{"$k": api.ErrWord, "1 $<< 31": api.ErrOver, "$~1": api.ErrConst, "1 + $x": api.ErrWord}}
}

// ofValue is a slot for an expression that is looked at.
func ofValue(name, good string) slot {
	return slot{name, good, map[string]api.Errno{"$x[9:8]": api.ErrIndex, "~(${x, 250'b1, y} + 1)": api.ErrSize, "x[$E[0]]": api.ErrConst, "x[$k:0]": api.ErrWord, "$E[h:g]": api.ErrConst}}
}

// ofRange is a slot for a range, and what stands around it: at the place of that it is refused.
func ofRange(name, before, behind string) slot {
	return slot{name, before + "[3:0]" + behind, map[string]api.Errno{before + "[$k:h]" + behind: api.ErrWord, before + "[999:$k]" + behind: api.ErrWord, "$" + before + "[1:2]" + behind: api.ErrRange, "$" + before + "[256:0]" + behind: api.ErrRange}}
}

// The source: pieces that are looked at late stand ahead of others in it.
const ladder = `module sub #(parameter P = 1, parameter Q = 2, parameter R = <own>, parameter E = 1) (<inner 1>, <inner 2>, output o, input [3:0] x, input [3:0] y);
assign o = <inner value>; <inner net>; localparam SL = <inner local>; endmodule
module m #(parameter A = <param 1>, parameter B = <param 2>, parameter E = 1) (<port 1>, <port 2>, output z, output reg q);
<assign> <value>;
for (i = <begin>; <while>; i = <next>) begin : g assign v = <for value>; <for net>, v; localparam FL = <for local>; e u (.a(<for bind>)); end
always @(*) begin q = <set>; if (<if>) q = <then>; else begin q = <else>; end case (<case>) <label 1>: q = <arm 1>; <label 2>: q = <arm 2>; default: q = <default>; endcase end
always @(posedge x) r <= <clocked>;
sub #(.Q(<bind Q>), .P(<bind P>)) u (.b(<bind b>), .o(w), .a(<bind a>));
<net 1>, w, l; localparam L = <local 1>; <net 2>, r; localparam M = <local 2>;
assign l = <last>;
endmodule module e(input a); endmodule module unused(); <sema> endmodule`

// slots is the pieces in the order in which they are looked at.
func slots() []slot {
	return []slot{
		{"sema", "", map[string]api.Errno{"$wire c, c;": api.ErrTwice, "$assign c = 1;": api.ErrWord}},
		ofConstant("param 1", "3"), ofConstant("param 2", "A"), ofRange("port 1", "input ", " x"), ofRange("port 2", "input ", " y"),
		ofRange("net 1", "wire ", " n1"), ofConstant("local 1", "A + 1"), ofRange("net 2", "reg ", " n2"), ofConstant("local 2", "L"),
		{"assign", "assign #2 z =", map[string]api.Errno{"assign #$k z =": api.ErrWord, "$assign #0 z =": api.ErrRange, "$assign #(1 << 21) z =": api.ErrRange, "assign #(1 $<< 32) z =": api.ErrOver}}, ofValue("value", "x + y"),
		ofConstant("begin", "0"), ofConstant("while", "i < 2"), ofRange("for net", "wire ", " t"), ofConstant("for local", "i + L"), ofValue("for value", "x[i]"), ofValue("for bind", "i"), ofConstant("next", "i + 1"),
		ofValue("set", "x"), ofValue("if", "q"), ofValue("then", "1"), ofValue("else", "2"), ofValue("case", "x"), ofValue("label 1", "1"), ofValue("arm 1", "y"), ofValue("label 2", "L"), ofValue("arm 2", "y"), ofValue("default", "0"), ofValue("clocked", "r"),
		ofConstant("bind P", "M"), ofConstant("bind Q", "L"), ofConstant("own", "P + Q"), ofRange("inner 1", "input ", " a"), ofRange("inner 2", "input ", " b"), ofValue("bind a", "y"), ofValue("bind b", "{x, y}"),
		ofRange("inner net", "reg ", " s"), ofConstant("inner local", "R"), ofValue("inner value", "a + SL"), ofValue("last", "M"),
	}
}

// filled is the source, with one fault, or another one behind it as well.
func filled(list []slot, faults map[int]string) string {
	source := ladder
	for i, s := range list {
		text, there := faults[i]
		if !there {
			text = s.good
		}
		source = strings.Replace(source, "<"+s.name+">", text, 1)
	}
	return source
}

func TestEl1WhichReasonIsFirst(t *testing.T) {
	list := slots()
	accepted(t, filled(list, nil))
	for i, s := range list {
		for fault, code := range s.faults {
			refusedAt(t, code, filled(list, map[int]string{i: fault}))
			for j := i + 1; j < len(list); j++ {
				for other := range list[j].faults {
					refusedAt(t, code, filled(list, map[int]string{i: fault, j: strings.Replace(other, "$", "", 1)}))
				}
			}
		}
	}
}

// Of the numbers of a for the one that is met first, turn by turn.
func TestEl1ReasonsTurnByTurn(t *testing.T) {
	of := func(head, items string) string {
		return "module m(input [3:0] x); for (" + head + ") begin : g " + items + " end endmodule module e(input a); endmodule"
	}
	refusedAt(t, api.ErrIndex, of("i = 0; i < 3; i = i + k", "wire a; assign a = $x[i + 4:0];"), of("i = 0; i < 3; i = i + 1", "wire a; assign a = $x[i + 2:i];"), of("i = 1; i < 9; i = i + 1", "wire a; assign #(4 - i) a = $x[i << 1:0];"))
	refusedAt(t, api.ErrWord, of("i = 0; i < 3; i = i + $k", "wire a; assign a = x[i + 3:0];"), of("i = 0; i < 1 ? 1 : $k; i = i + 1", "wire a; assign a = x[i + 3:0];"))
	refusedAt(t, api.ErrRange, of("i = 0; i < 3; i = i + 1", "wire a; $wire [1-i:0] b; assign a = x[i + 2:0];"), of("i = 0; i < 3; i = i + 1", "wire a; $assign #(1 - i) a = x[i + 3:0];"))
	// The items of one turn are all ahead of the next one's, the names of a scope ahead of its other items.
	refusedAt(t, api.ErrIndex, of("i = 0; i < 3; i = i + 1", "wire a, b; assign a = x[i + 2:0]; assign b = $x[i + 4:0]; assign #(3 - i) c = 1; wire c;"))
	refusedAt(t, api.ErrRange, of("i = 0; i < 3; i = i + 1", "assign a = x[i + 4:0]; wire a; "+loop("j", 2, "h", "wire [j:1] c;")+" $wire [0-i:1] d;"))
}
