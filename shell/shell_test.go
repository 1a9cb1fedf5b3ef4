package shell_test

import (
	"silkworm/shell"
	"strings"
	"testing"
)

// dumpOf is a dump's text, of which only what hangs on the waveform is told: lines with / between them, of the nets, their first values, and the changes.
func dumpOf(nets, first, changes string) string {
	return "$timescale 1 ns $end\n$scope module top $end\n" + lines(nets) + "$upscope $end\n$enddefinitions $end\n$dumpvars\n" + lines(first) + "$end\n" + lines(changes)
}

func lines(text string) string {
	if text == "" {
		return ""
	}
	return strings.ReplaceAll(text, "/", "\n") + "\n"
}

// The ways to simulate, each of which puts out the same; behind each stands a horizon.
var ways = []string{"run", "conserv 1", "warp 1", "conserv 2", "warp 2", "conserv 3", "warp 5", "conserv 64", "warp 64"}

// simulates tells what a design puts out under a stimulus, in all ways, behind several passes; commands of the stimulus stand with / between them.
func simulates(t *testing.T, source, ports, sets, horizon, want string) {
	t.Helper()
	for _, passes := range []string{"", " dead", " fold share wire dead", " share share fold"} {
		head := sourced(source+"\n") + "build m" + passes + "\n"
		opening := "ok\nok\n" + lines(ports)
		for _, set := range strings.Fields(strings.ReplaceAll(sets, " ", "_")) {
			for _, one := range strings.Split(set, "/") {
				head += "set " + strings.ReplaceAll(one, "_", " ") + "\n"
				opening += "ok\n"
			}
		}
		for _, way := range ways {
			runs(t, head+way+" "+horizon+"\n", opening+want)
		}
	}
}

func TestSh1Example(t *testing.T) {
	got := shell.Run(lateHead + "set 1 a 0\nrun 5\n")
	if got != lateOk+"ok\n"+lateDump+"#1\n0!\n#3\n1\"\n" {
		t.Errorf("%q", got)
	}
}

// The script that README.md tells of.
func TestSh1Readme(t *testing.T) {
	runs(t, "source\nmodule m(input a, output y); assign #2 y = ~a; endmodule\n.\nbuild m\nset 1 a 0\nrun 5\nstats y 10\nrun\n", lateOk+"ok\n"+lateDump+"#1\n0!\n#3\n1\"\n1 100 nan nan inf -inf\n! 210\n")
}

func TestSh1WrittenOut(t *testing.T) {
	const one = "$var wire 1 ! a $end/$var wire 1 \" y $end"
	for _, x := range []struct{ source, ports, sets, horizon, nets, first, changes string }{
		{late, "in a 1/out y 1", "1 a 0", "5", one, "x!/x\"", "#1/0!/#3/1\""},
		{late, "in a 1/out y 1", "1 a 0", "2", one, "x!/x\"", "#1/0!"},
		{late, "in a 1/out y 1", "", "200", one, "x!/x\"", ""},
		{late, "in a 1/out y 1", "0 a 1/198 a 0/200 a x/1000000000 a 1", "200", one, "x!/x\"", "#0/1!/#2/0\"/#198/0!/#200/x!/1\""},
		{"module m(); endmodule module k(input a); endmodule module m2(); endmodule", "", "", "9", "", "", ""},
		{"module m(input a, output y); assign y = a; endmodule", "in a 1/out y 1", "0 a 1/5 a z", "5", one, "x!/x\"", "#0/1!/1\"/#5/z!/z\""},
		{"module m(input a, output y); endmodule", "in a 1/out y 1", "3 a 1", "5", one, "x!/z\"", "#3/1!"},
		{"module m(output [3:0] y, input [1:0] a); assign y = {a, 1'bx, ~a[0:0]}; endmodule", "out y 4/in a 2", "2 a 01/1 a z0", "3", "$var wire 4 ! y $end/$var wire 2 \" a $end", "bxxxx !/bxx \"", "#1/bz0x1 !/bz0 \"/#2/b01x0 !/b01 \""},
		{"module m(input e, output y); assign #3 y = e & ~y; endmodule", "in e 1/out y 1", "1 e 0/6 e 1", "16", "$var wire 1 ! e $end/$var wire 1 \" y $end", "x!/x\"", "#1/0!/#4/0\"/#6/1!/#9/1\"/#12/0\"/#15/1\""},
		{"module m(input c, input r, output reg [1:0] q); always @(posedge c) if (r) q <= 0; else q <= q + 1; endmodule", "in c 1/in r 1/out q 2", "0 c 0/0 r 1/1 c 1/2 c 0/2 r 0/3 c 1/4 c 0/5 c 1", "5", "$var wire 1 ! c $end/$var wire 1 \" r $end/$var wire 2 # q $end", "x!/x\"/bxx #", "#0/0!/1\"/#1/1!/b00 #/#2/0!/0\"/#3/1!/b01 #/#4/0!/#5/1!/b10 #"},
		{"module s #(parameter N = 1) (input [N-1:0] a, output [N-1:0] y); assign #N y = ~a; endmodule module m(input [1:0] a, output [1:0] y); wire [1:0] w; s #(.N(2)) u (.a(a), .y(w)); s #(.N(2)) v (.a(w), .y(y)); endmodule", "in a 2/out y 2", "1 a 10", "9", "$var wire 2 ! a $end/$var wire 2 \" y $end", "bxx !/bxx \"", "#1/b10 !/#5/b10 \""},
		{"`define ON 1\nmodule m(input [1:0] a, output reg y);\nalways @(*) case (a) 2'b10: y = `ON; 2'bxz: y = 1'bz; default: y = 0; endcase\nendmodule", "in a 2/out y 1", "1 a 10/2 a 11/3 a xz", "9", "$var wire 2 ! a $end/$var wire 1 \" y $end", "bxx !/0\"", "#1/b10 !/1\"/#2/b11 !/0\"/#3/bxz !/z\""},
	} {
		simulates(t, x.source, x.ports, x.sets, x.horizon, dumpOf(x.nets, x.first, x.changes))
	}
}

// Remarks, and lines without words, are passed over; blanks may stand around words.
func TestSh1Lines(t *testing.T) {
	const out = lateOk + "ok\n" + lateDump + "#1\n0!\n#3\n1\"\n"
	for _, text := range []string{
		lateHead + "set 1 a 0\nrun 5",
		"\n\n   \n" + lateHead + "\n//\n// run 5\n//run 5\nset 1 a 0\n \nrun 5\n\n",
		"source   \n" + late + ".\n  build   m  \n    set  1   a 0 \nrun     5      ",
		"   source\n" + late + ".\nbuild m\nset 1 a 0\nrun 5\n// " + strings.Repeat("x", 100),
	} {
		runs(t, text, out)
	}
	for _, text := range []string{"", "\n", " ", "\n\n\n", "// a", "//", "//\n//\n \n// source"} {
		runs(t, text, "")
	}
}

// All lines ahead of the point are the source: remarks, empty ones and commands, too.
func TestSh1Source(t *testing.T) {
	for _, x := range []struct{ text, want string }{
		{"source\n.", "ok\n"},
		{"source\n.\nprint", "ok\n! 40\n"},
		{"source\n.\nbuild m", "ok\nno 0 40\n"},
		{"source\n\n.\nbuild m", "ok\nno 1 40\n"},
		{"source\n// a\n\nmodule m();\n// run 5\nendmodule\n.\nprint", "ok\nmodule m ( ) ;\nendmodule\n"},
		{"source\nmodule m();\n .\n.\nbuild m", "ok\nno 13 40\n"},
		{"source\nmodule m();\n. \n..\n.\nbuild m", "ok\nno 12 40\n"},
		{"source\nsource\n.\nbuild source", "ok\nno 0 40\n"},
		{"source\nmodule m(); endmodule\n.\nsource\nmodule k(); endmodule\n.\nbuild m\nbuild k\nprint", "ok\nok\nno 0 80\nok\nmodule k ( ) ;\nendmodule\n"},
		{"source\nmodule m(); /*\n.\n", "ok\n"},
		{"source\nmodule m(); /*\n.\n*/ endmodule\n.\nbuild m", "ok\n! 210\n! 210\nno 12 20\n"},
		{"source\n`define A endmodule\nmodule m(); `A\n.\nbuild m", "ok\nok\n"},
	} {
		runs(t, x.text, x.want)
	}
}

// A source stands till the next one; what was built of the one ahead stays till the next build.
func TestSh1Stays(t *testing.T) {
	wave := lateDump + "#1\n0!\n#3\n1\"\n"
	head := lateHead + "set 1 a 0\n"
	ok := lateOk + "ok\n"
	runs(t, head+"source\nmodule k(); endmodule\n.\nrun 5\nprint\nbuild m\nrun 5\nset 1 a 0\n", ok+"ok\n"+wave+"module k ( ) ;\nendmodule\nno 0 80\n! 3\n! 3\n")
	runs(t, head+"build m\nrun 5\n", ok+"ok\nin a 1\nout y 1\n"+lateDump)
	runs(t, head+"build k\nrun 5\nbuild m\nrun 5\n", ok+"no 0 80\n! 3\nok\nin a 1\nout y 1\n"+lateDump)
	runs(t, head+"run 5\nrun 5\nset 1 a 0\nrun 2\nrun 5\n", ok+wave+wave+"ok\n"+lateDump+"#1\n0!\n"+wave)
}

func TestSh1Build(t *testing.T) {
	head := "source\nmodule s(input [3:0] b, output reg [255:0] y); endmodule\nmodule m(output z, input [1:0] a, output reg q, input _0); s u (.b(a)); wire w; endmodule\n.\n"
	for _, x := range []struct{ words, want string }{
		{"build s", "ok\nin b 4\nout y 256\n"},
		{"build m", "ok\nout z 1\nin a 2\nout q 1\nin _0 1\n"},
		{"build m dead wire  dead", "ok\nout z 1\nin a 2\nout q 1\nin _0 1\n"},
		{"build u", "no 0 80\n"},
		{"build M", "no 0 80\n"},
		{"build m all", "no 0 1\n"},
		{"build m dead,wire", "no 0 1\n"},
		{"build m dead build", "no 0 1\n"},
	} {
		answers(t, head, x.words, x.want)
	}
	for _, x := range []struct{ source, want string }{
		{"module m(input a, output y); assign y = ~a endmodule", "no 43 40\n"},
		{"$", "no 0 20\n"},
		{"module m(input a, output y);\nassign y = ~y; endmodule", "no 0 110\n"},
		{"module m(output y);\nassign y = k; endmodule", "no 31 71\n"},
		{many(100), "no 0 83\n"},
		{strings.Repeat("\n", 65535), "no 65536 40\n"},
		{strings.Repeat("\n", 65536), "no 0 4\n"},
	} {
		answers(t, sourced(x.source+"\n"), "build m", x.want)
	}
}

// A change may come ahead of those that are there, and takes the place of one of its time and net.
func TestSh1Set(t *testing.T) {
	source := "module m(input [1:0] a, output y, input b); endmodule"
	for _, x := range []struct{ sets, changes string }{
		{"set 3 b 1\nset 1 a 01\nset 2 a 10\nset 1 b 0\n", "#1\nb01 !\n0#\n#2\nb10 !\n#3\n1#\n"},
		{"set 1 a 01\nset 1 a 10\n", "#1\nb10 !\n"},
		{"set 1 a 01\nset 1 b 1\nset 1 a 11\nset 2 a 00\nset 1 a zx\n", "#1\nbzx !\n1#\n#2\nb00 !\n"},
		{"set 0 b x\nset 0 a 00\nset 2 a 00\nset 4 a 0z\n", "#0\nb00 !\n#4\nb0z !\n"},
		{"set 5 b 1\nset 9 b 0\nset 5 b x\n", "#9\n0#\n"},
		{"set 10 b 1\nset 201 b 0\nset 1000000000 a 00\n", "#10\n1#\n"},
	} {
		head := sourced(source+"\n") + "build m\n"
		want := "ok\nok\nin a 2\nout y 1\nin b 1\n" + strings.Repeat("ok\n", strings.Count(x.sets, "set")) + dumpOf("$var wire 2 ! a $end/$var wire 1 \" y $end/$var wire 1 # b $end", "bxx !/z\"/x#", "") + x.changes
		for _, way := range ways {
			runs(t, head+x.sets+way+" 200", want)
		}
	}
}

func TestSh1Stats(t *testing.T) {
	source := "module m(input a, output y, input [1:0] b, output [3:0] q, output o); assign #2 y = ~a; endmodule"
	head := sourced(source+"\n") + "build m\nset 1 a 0\nset 3 a 1\nset 7 a 0\nset 7 b 00\nset 200 b 11\n"
	for _, x := range []struct{ words, want string }{
		{"a 10", "3 300 3000 1000 2000 4000\n"},
		{"a 7", "3 428 3000 1000 2000 4000\n"},
		{"a 6", "2 333 2000 0 2000 2000\n"},
		{"a 1", "1 1000 nan nan inf -inf\n"},
		{"a 0", "0 nan nan nan inf -inf\n"},
		{"* 0", "0 nan nan nan inf -inf\n"},
		{"y 10", "3 300 3000 1000 2000 4000\n"},
		{"y 8", "2 250 2000 0 2000 2000\n"},
		{"b 200", "2 10 193000 0 193000 193000\n"},
		{"b 199", "1 5 nan nan inf -inf\n"},
		{"q 200", "0 0 nan nan inf -inf\n"},
		{"* 5", "4 800 1333 888 0 2000\n"},
		{"* 7", "6 857 1200 960 0 2000\n"},
		{"* 200", "8 40 28428 4405673 0 191000\n"},
	} {
		answers(t, head, "stats "+x.words, x.want)
		answers(t, head+"build m share wire fold dead\nset 1 a 0\nset 3 a 1\nset 7 a 0\nset 7 b 00\nset 200 b 11\n", "stats "+x.words, x.want)
	}
	answers(t, sourced("module m(input a, output y); assign y = a; endmodule\n")+"build m\nset 0 a 1\n", "stats a 0", "1 inf nan nan inf -inf\n")
	answers(t, sourced("module m(); endmodule\n")+"build m\n", "stats * 7", "0 0 nan nan inf -inf\n")
}

func TestSh1Print(t *testing.T) {
	for _, x := range []struct{ source, want string }{
		{late, "module m ( input a , output y ) ;\nassign # 2 y = ~ a ;\nendmodule\n"},
		{"module m(); endmodule module k(); endmodule", "module m ( ) ;\nendmodule\nmodule k ( ) ;\nendmodule\n"},
		{"`define A 4'hf\nmodule m(output [3:0] y); assign y = `A; endmodule", "module m ( output [ 3 : 0 ] y ) ;\nassign y = 4'b1111 ;\nendmodule\n"},
		{"module m(output y); assign y = y; assign k = 1; endmodule", "module m ( output y ) ;\nassign y = y ;\nassign k = 1 ;\nendmodule\n"},
		{"module m(); assign y = $ endmodule", "! 20\n"},
		{"module m(); assign y = `A; endmodule", "! 30\n"},
		{"`define A `A\n`A", "! 31\n"},
		{"module m(); assign y = ; endmodule", "! 40\n"},
		{"module m(); assign y = " + strings.Repeat("~", 32) + "1; endmodule", "! 41\n"},
		{strings.Repeat("\n", 65536), "! 4\n"},
		{strings.Repeat(";", 16385), "! 2\n"},
		{"module m(input a, output reg q); always @(*) " + strings.Repeat("if (a) ", 20) + "q = 1; endmodule", "! 1\n"},
	} {
		answers(t, sourced(x.source+"\n"), "print", x.want)
		answers(t, sourced(x.source+"\n")+"build m\n", "print", x.want)
	}
}
