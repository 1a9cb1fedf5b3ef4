package shell_test

import (
	"fmt"
	"silkworm/api"
	"silkworm/level"
	"silkworm/lower"
	"silkworm/shell"
	"slices"
	"strings"
	"testing"
)

// kinds is how many nodes of a kind a netlist has.
func kinds(l api.Netlist, kind int) int {
	count := 0
	for _, n := range l.Nodes {
		if n.Kind == kind {
			count++
		}
	}
	return count
}

func TestSh1Compile(t *testing.T) {
	f, l := compiles(t, late, "m")
	if len(f.Nets) != 2 || f.Ports != 2 || f.Nets[0] != (api.Net{Name: "a", Wide: 1, Kind: api.NetIn}) || f.Nets[1] != (api.Net{Name: "y", Wide: 1, Kind: api.NetDelay}) {
		t.Error(f)
	}
	if l.Ports != 2 || kinds(l, api.NdIn) != 1 || kinds(l, api.NdDelay) != 1 || kinds(l, api.NdOp) != 1 {
		t.Error(l)
	}
	two := "module s #(parameter N = 1) (input [N-1:0] a, output [N-1:0] y); assign y = ~a; endmodule module m(input [3:0] a, output [3:0] y); s #(.N(4)) u (.a(a), .y(y)); endmodule"
	for top, names := range map[string]string{"s": "a y", "m": "a y u.a u.y"} {
		var got []string
		f, _ := compiles(t, two, top)
		for _, n := range f.Nets {
			got = append(got, n.Name)
		}
		if strings.Join(got, " ") != names || f.Ports != 2 {
			t.Errorf("%s: %q", top, got)
		}
	}
	f, l = compiles(t, "module m(); endmodule", "m")
	if len(f.Nets)+len(f.Procs)+f.Ports+len(l.Nodes)+len(l.Nets)+l.Ports != 0 {
		t.Error(f, l)
	}
}

// Directives stand between the source and its modules.
func TestSh1Directives(t *testing.T) {
	f, _ := compiles(t, "`define W 7\n`ifdef W\nmodule m(input [`W:0] a);\n`else\nmodule k();\n`endif\nendmodule", "m")
	if len(f.Nets) != 1 || f.Nets[0].Wide != 8 {
		t.Error(f)
	}
}

// Passes go over the netlist, in their order, each as often as it is told; the flat design stays.
func TestSh1Passes(t *testing.T) {
	s := "module m(input a, output y); wire w; assign w = a ^ 1; assign y = a & (1 & 0); endmodule"
	plain, all := compiles(t, s, "m")
	for _, c := range []struct {
		passes       []string
		fewer, gates bool
	}{
		{nil, false, true}, {[]string{}, false, true}, {[]string{"wire", "fold"}, true, true}, {[]string{"dead"}, true, true}, {[]string{"fold", "dead"}, true, true}, {[]string{"dead", "dead", "dead"}, true, true}, {[]string{"wire", "share", "fold", "dead"}, true, true},
	} {
		f, l := compiles(t, s, "m", c.passes...)
		if !alike(f, plain) || (len(l.Nodes) < len(all.Nodes)) != c.fewer || (kinds(l, api.NdOp) > 0) != c.gates || lower.Check(l) != api.OK {
			t.Errorf("%v: %v, of %v", c.passes, l, all)
		}
	}
	s = "module m(input a, output y, output z); wire w; assign w = a; assign y = ~a; assign z = ~w; endmodule"
	_, ahead := compiles(t, s, "m", "wire", "share", "dead")
	_, behind := compiles(t, s, "m", "share", "wire", "dead")
	if len(ahead.Nodes) >= len(behind.Nodes) {
		t.Errorf("%v, %v", ahead, behind)
	}
}

// many is a source with so many instances, each of which comes to some fifty nodes.
func many(count int) string {
	out := "module s(input a, output y); assign y = a" + strings.Repeat(" + a ^ 1", 25) + "; endmodule module m(input a, output y);"
	for i := range count {
		out += fmt.Sprintf(" s u%d (.a(a));", i)
	}
	return out + " endmodule"
}

// Each part of the way refuses what is its own, at the place that it tells; layers 9 to 11 at 0.
func TestSh1Refuses(t *testing.T) {
	module := "module m(input a, output y, output reg q); "
	for _, c := range []struct {
		s, top string
		passes []string
		at     int
		code   api.Errno
	}{
		{"$", "m", nil, 0, api.ErrByte},
		{"module m(); $ endmodule", "m", nil, 12, api.ErrByte},
		{strings.Repeat(" ", api.MaxSource+1), "m", nil, 0, api.ErrLong},
		{late + strings.Repeat(" ", api.MaxSource+1-len(late)), "m", nil, 0, api.ErrLong},
		{" " + strings.Repeat("n", 65), "m", nil, 1, api.ErrLong},
		{"a 1'", "m", nil, 2, api.ErrNumber},
		{strings.Repeat(";", api.MaxTokens+1), "m", nil, api.MaxTokens, api.ErrFull},
		{"module m(); endmodule `endif", "m", nil, 22, api.ErrDirect},
		{"`define B `B\n `B", "m", nil, 14, api.ErrFuel},
		{"", "m", nil, 0, api.ErrSyntax},
		{"\n", "m", nil, 1, api.ErrSyntax},
		{"// m", "", nil, 4, api.ErrSyntax},
		{"module m(input a, output y); assign y = ~a endmodule", "m", nil, 43, api.ErrSyntax},
		{"module m(); assign y = " + strings.Repeat("(", 32) + "1" + strings.Repeat(")", 32) + "; endmodule", "m", nil, 23 + 32, api.ErrDeep},
		{"module m(); endmodule module m(); endmodule", "m", nil, 22, api.ErrTwice},
		{module + "assign y = k; endmodule", "m", nil, 54, api.ErrWord},
		{module + "assign a = 1; endmodule", "m", nil, 43, api.ErrTarget},
		{module + "assign y = 1; assign y = 1; endmodule", "m", nil, 57, api.ErrDrive},
		{module + "always @(*) q <= 1; endmodule", "m", nil, 55, api.ErrBlock},
		{module + "always @(*) if (a) q = 1; endmodule", "m", nil, 43, api.ErrLatch},
		{module + "k u (); endmodule", "m", nil, 43, api.ErrModule},
		{module + "endmodule", "k", nil, 0, api.ErrModule},
		{module + "endmodule", "", nil, 0, api.ErrModule},
		{module + "endmodule", "m ", nil, 0, api.ErrModule},
		{"module m(input [256:0] a); endmodule", "m", nil, 9, api.ErrRange},
		{"module m(); localparam N = 1 << 31; endmodule", "m", nil, 29, api.ErrOver},
		{"module m(input a, output y); assign y = a[1:1]; endmodule", "m", nil, 40, api.ErrIndex},
		{"module s(); m u (); endmodule module m(); s u (); endmodule", "m", nil, 42, api.ErrModule},
		{many(100), "m", nil, 0, api.ErrSize},
		{late, "m", []string{"all"}, 0, api.ErrArg},
		{late, "m", []string{"dead", "Fold"}, 0, api.ErrArg},
		{late, "m", []string{"dead", "", "fold"}, 0, api.ErrArg},
		{late, "m", []string{" dead"}, 0, api.ErrArg},
		{module + "assign y = ~y; endmodule", "m", nil, 0, api.ErrLoop},
		{module + "assign y = ~y; endmodule", "m", []string{"share", "wire", "dead"}, 0, api.ErrLoop},
	} {
		refuses(t, c.s, c.top, c.passes, c.at, c.code)
	}
	compiles(t, many(20), "m")
}

// Of several faults the one counts that the first part ahead meets.
func TestSh1Order(t *testing.T) {
	const loop = "assign y = ~y; endmodule"
	head := "module m(input a, output y); "
	none := []string{"none"}
	refuses(t, "`endif module m( $", "k", none, 17, api.ErrByte)
	refuses(t, "module m( ; `endif", "k", none, 12, api.ErrDirect)
	refuses(t, head+"assign y = k; "+loop+" module", "k", none, 74, api.ErrSyntax)
	refuses(t, head+"assign y = k; "+loop, "k", none, 40, api.ErrWord)
	refuses(t, head+loop, "k", none, 0, api.ErrModule)
	refuses(t, many(100), "m", none, 0, api.ErrSize)
	refuses(t, head+loop, "m", none, 0, api.ErrArg)
	refuses(t, head+loop, "m", nil, 0, api.ErrLoop)
}

// A loop counts behind the passes: one that they take away is none.
func TestSh1LoopsBehindPasses(t *testing.T) {
	s := "module m(input a, output y); wire w; assign w = ~w; assign y = a; endmodule"
	refuses(t, s, "m", nil, 0, api.ErrLoop)
	refuses(t, s, "m", []string{"fold", "share"}, 0, api.ErrLoop)
	_, l := compiles(t, s, "m", "dead")
	if _, e := level.Run(l); e != api.OK {
		t.Error(l, e)
	}
}

// P3: whatever bytes there are, there is a design, or one reason at a place inside.
func TestP3Spoilt(t *testing.T) {
	d := dice(3)
	taken := 0
	for range 3000 {
		s, _ := makeSource(&d)
		for range d.roll(3) {
			s = spoilt(&d, s)
		}
		f, l, why := shell.Compile(s, "m", nil)
		wantF, wantL, wantWhy := compiled(s, "m", nil)
		if !alike(f, wantF) || !alike(l, wantL) || !slices.Equal(why, wantWhy) {
			t.Fatalf("%s: %v, not %v", brief(s), why, wantWhy)
		}
		if len(why) > 1 || len(why) == 1 && (why[0].At < 0 || why[0].At > len(s) || why[0].Code == api.OK) {
			t.Fatalf("%s: %v", brief(s), why)
		}
		if len(why) == 0 {
			taken++
		}
	}
	if taken < 500 || taken > 2500 {
		t.Error(taken)
	}
}

// spoilt is a text in which something is gone, doubled, or another byte.
func spoilt(d *dice, s string) string {
	if s == "" {
		return s
	}
	from := d.roll(len(s))
	to := min(from+1+d.roll(8), len(s))
	switch d.roll(4) {
	case 0:
		return s[:from] + s[to:]
	case 1:
		return s[:to] + s[from:]
	case 2:
		return s[:from] + d.one("~", "a", "i0", "$", ";", "(", "=", "\n", "#", "[", "9", "end", "`endif", "\x00", "\xff") + s[from:]
	}
	return s[:from] + string(byte(d.roll(256))) + s[to:]
}

// R3: what is handed in is not changed, not kept, and not read behind its end.
func TestR3Compile(t *testing.T) {
	list := []string{"fold", "dead", "none", ""}
	passes := list[:2]
	f, l, d := shell.Compile(late, "m", passes)
	if len(d) > 0 || !slices.Equal(list, []string{"fold", "dead", "none", ""}) {
		t.Fatal(d, list)
	}
	beforeF, beforeL := fmt.Sprintf("%+v", f), fmt.Sprintf("%+v", l)
	list[0], list[1] = "a", "b"
	if fmt.Sprintf("%+v", f) != beforeF || fmt.Sprintf("%+v", l) != beforeL {
		t.Error(f, l)
	}
	refuses(t, late, "m", list[:1], 0, api.ErrArg)
}

// R4: an answer hangs on the arguments alone; whoever writes to one changes no other one.
func TestR4Compile(t *testing.T) {
	f, l := compiles(t, late, "m")
	for range 3 {
		again, list := compiles(t, late, "m")
		if !alike(f, again) || !alike(l, list) {
			t.Fatal(again, list)
		}
		again.Nets[0].Name, again.Procs[0].Target, again.Procs[0].Value.Kids[0].Name = "k", 9, "k"
		list.Nodes[0].Wide, list.Nodes[2].Ins[0], list.Nets[0] = 7, 9, 9
		refuses(t, late, "k", nil, 0, api.ErrModule)
	}
}
