package shell_test

import (
	"fmt"
	"silkworm/shell"
	"strings"
	"testing"
)

// threePorts is a design that has an input, an output and a wide input.
const (
	threePorts = "source\nmodule m(input a, output y, input [2:0] w); wire n; assign n = a; assign #2 y = ~n; endmodule\n.\nbuild m\n"
	lineErr    = "! 210\n"
	noneErr    = "! 3\n"
	argErr     = "! 1\n"
)

// notLines is lines that are no commands, whatever there is.
func notLines() []string {
	out := []string{
		"nothing", ".", "..", "Run 5", "RUN 5", "run5", "ru", "run\t5", "\trun 5", "run 5\t", "run 5\r", "\x00", "\xff\xfe", "ok", "no", "!", "/", "/ /", " // a", "  //", "///a b", "run\u00a05", "#", "source.", "Build m", "help", "exit", "set\n", "é",
		"source m", "source .", "source //", "build", "build ", "set", "set 1", "set 1 a", "set 1 a 0 0", "run", "run 5 5", "run 5 //", "conserv", "conserv 2", "conserv 2 5 5", "warp", "warp 2", "warp 2 5 5", "stats", "stats a", "stats a 5 5", "stats 5", "print 1", "print m", "print //",
	}
	for _, n := range []string{"-1", "+1", "00", "01", "007", "0x1", "1e2", "1.0", "1_0", "a", "-0", "½", "١", "1000000001", "4294967296", "9223372036854775807", "9223372036854775808", "18446744073709551617", "1" + strings.Repeat("0", 100), "1'b1", "0b1", "5,", "*", "x", "-"} {
		for _, form := range []string{"set # a 0", "run #", "conserv # 5", "conserv 2 #", "warp # 5", "warp 2 #", "stats a #", "stats * #", "conserv # #", "warp # #"} {
			out = append(out, strings.ReplaceAll(form, "#", n))
		}
	}
	return out
}

// What is no command is that ahead of all other errors, whether there is a design or not.
func TestSh1NotLines(t *testing.T) {
	for _, line := range notLines() {
		want := lineErr
		switch {
		case strings.HasPrefix(line, "///"):
			want = ""
		case strings.HasSuffix(line, "\n"):
			line = strings.TrimSuffix(line, "\n")
		}
		for _, head := range []string{"", "source\n.\n", "source\n.\nbuild m\n", threePorts} {
			answers(t, head, line, want)
		}
	}
}

// Without a source nothing is built and printed, without a design nothing else is done: that is ahead of what is wrong about names and numbers.
func TestSh1None(t *testing.T) {
	for _, line := range []string{"build m", "build m all", "print"} {
		answers(t, "", line, noneErr)
		answers(t, "source\nmodule m(); endmodule\n", line, noneErr)
	}
	for _, line := range []string{"set 1 a 0", "set 1 k 0", "set 1 a 2", "set 1000000000 y 0", "run 5", "run 0", "run 200", "run 201", "run 1000000000", "conserv 2 5", "conserv 0 5", "conserv 65 5", "conserv 2 201", "warp 2 5", "warp 0 5", "warp 65 5", "warp 2 201", "stats * 5", "stats k 5", "stats a 201"} {
		for _, head := range []string{"", "source\n" + late + ".\n", lateHead + "build k\n", lateHead + "build m none\n", "build m\n"} {
			answers(t, head, line, noneErr)
		}
	}
}

func TestSh1Args(t *testing.T) {
	for _, line := range []string{
		"set 1 k 0", "set 1 A 0", "set 1 n 0", "set 1 y 0", "set 1 y 1", "set 1 m 0", "set 1 0 0", "set 1 * 0", "set 1 a, 0", "set 1 m.a 0",
		"set 1 a 00", "set 1 a 2", "set 1 a X", "set 1 a -", "set 1 a 1'b1", "set 1 a \xff", "set 1 w 1", "set 1 w 00", "set 1 w 0000", "set 1 w 01y", "set 1 w 7", "set 1 w 01\x00",
		"run 201", "run 1000000000", "conserv 0 5", "conserv 65 5", "conserv 1000000000 5", "conserv 1 201", "conserv 0 201", "warp 0 5", "warp 65 5", "warp 1000000000 5", "warp 64 201", "warp 65 201",
		"stats k 5", "stats n 5", "stats ** 5", "stats 0 5", "stats -1 5", "stats a 201", "stats * 201", "stats k 201",
	} {
		answers(t, threePorts, line, argErr)
	}
}

// What is refused changes nothing: all that follows is as without it.
func TestSh1RefusedChangesNothing(t *testing.T) {
	lines := append(notLines(), "set 1 k 0", "set 1 y 0", "set 1 a 00", "set 1 a 2", "run 201", "conserv 0 5", "conserv 65 5", "warp 1 201", "stats k 5", "stats a 201")
	follow := "run 9\nstats * 9\nprint\nset 4 w 000\nwarp 2 9\nbuild m\nconserv 2 9\n"
	head := threePorts + "set 1 a 0\nset 2 w 01x\n"
	begins, want := shell.Run(head), strings.TrimPrefix(shell.Run(head+follow), shell.Run(head))
	for _, line := range lines {
		refused := shell.Run(head + line + "\n")
		if strings.HasPrefix(line, "///") || strings.Contains(line, "\n") {
			continue
		}
		if !strings.HasPrefix(refused, begins+"! ") {
			t.Fatalf("%q: %q", line, refused)
		}
		runs(t, head+line+"\n"+follow, refused+want)
		runs(t, head+strings.Repeat(line+"\n", 3)+follow, begins+strings.Repeat(strings.TrimPrefix(refused, begins), 3)+want)
	}
}

// A source that does not end is refused, and the lines behind it are commands of their own.
func TestSh1SourceWithoutEnd(t *testing.T) {
	runs(t, "source", lineErr)
	runs(t, "source\n", lineErr)
	runs(t, "source\n.x\n. \n .\n", lineErr+lineErr+lineErr+lineErr)
	runs(t, "source\nmodule m(); endmodule\nbuild m\nprint\n", lineErr+lineErr+noneErr+noneErr)
	runs(t, threePorts+"source\nmodule k(); endmodule\nbuild k\nbuild m\nprint", "ok\nok\nin a 1\nout y 1\nin w 3\n"+lineErr+lineErr+"no 0 80\nok\nin a 1\nout y 1\nin w 3\nmodule m ( input a , output y , input [ 2 : 0 ] w ) ;\nwire n ;\nassign n = a ;\nassign # 2 y = ~ n ;\nendmodule\n")
	runs(t, "source\nsource\nsource", lineErr+lineErr+lineErr)
	runs(t, "source m\n.\n", lineErr+lineErr)
}

// What the layers refuse is told by their numbers.
func TestSh1CallsRefuse(t *testing.T) {
	runs(t, "source\nmodule m(output _); endmodule\n.\nbuild m\nrun 5\nconserv 1 5\nwarp 1 5\nstats _ 5\n", "ok\nok\nout _ 1\n! 1\n! 1\n! 1\n0 0 nan nan inf -inf\n")
}

// Without nodes there are no parts, but what is wrong about a number of them, or a horizon, is refused as ever.
func TestSh1WithoutNodesRefuses(t *testing.T) {
	head := "source\nmodule m(); wire n; assign n = 1; endmodule\n.\nbuild m dead\n"
	for _, way := range []string{"conserv", "warp"} {
		for words, want := range map[string]string{"0 5": argErr, "65 5": argErr, "1000000000 0": argErr, "1 201": argErr, "64 1000000000": argErr, "0 201": argErr, "5": lineErr, "1 5 5": lineErr, "01 5": lineErr, "1 05": lineErr} {
			answers(t, head, way+" "+words, want)
		}
	}
	answers(t, head, "set 0 n 1", argErr)
	answers(t, head, "stats * 5", "0 0 nan nan inf -inf\n")
}

// manyLate is a design whose output turns at each time, and so do many delays that are behind it.
func manyLate(count, time int) string {
	var b strings.Builder
	b.WriteString("module m(input e, output y); wire o; assign #1 o = e & ~o; assign y = o;\n")
	for i := range count {
		fmt.Fprintf(&b, "wire d%d; assign #%d d%d = o;\n", i, time, i)
	}
	return b.String() + "endmodule\n"
}

// P6: too many events are told by their error, and by no values; whoever has room for them tells the one waveform.
func TestP6Queue(t *testing.T) {
	toggling := "set 0 e 0\nset 2 e 1\n"
	opening := "ok\nok\nin e 1\nout y 1\nok\nok\n"
	head := sourced(manyLate(45, 100)) + "build m\n" + toggling
	for _, way := range []string{"run", "conserv 1", "warp 1"} {
		runs(t, head+way+" 200\nrun 9\n", opening+"! 141\n"+strings.TrimPrefix(shell.Run(head+"run 9\n"), opening))
	}
	runs(t, head+"stats * 200\nstats y 1\n", opening+"! 141\n1 1000 nan nan inf -inf\n")
	some := sourced(manyLate(35, 100)) + "build m\n" + toggling
	want := shell.Run(some + "run 200\n")
	if strings.Contains(want, "\n! ") || !strings.Contains(want, "\n#200\n") {
		t.Fatal(brief(want))
	}
	for _, way := range ways {
		runs(t, some+way+" 200\n", want)
	}
	runs(t, head+"build m dead\n"+toggling+"run 200\n", opening+strings.TrimPrefix(want, "ok\n"))
	// In many parts each process has room for its own.
	for _, way := range []string{"conserv 64", "warp 64"} {
		runs(t, head+way+" 200\n", want)
	}
}
