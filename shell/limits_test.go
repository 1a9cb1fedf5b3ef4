package shell_test

import (
	"fmt"
	"silkworm/api"
	"silkworm/shell"
	"strings"
	"testing"
)

func TestSh1MostBytes(t *testing.T) {
	for _, head := range []string{"", "source\n.\n", lateHead + "set 1 a 0\nrun 5\n", "nothing\n"} {
		for _, fill := range []string{" ", "\n", "/"} {
			want := shell.Run(head)
			full := head + strings.Repeat(fill, api.MaxScript-len(head))
			runs(t, full, want)
			runs(t, full[:len(full)-1], want)
			runs(t, full+" ", "")
			runs(t, full+"\nrun 5\n", "")
			runs(t, full+full, "")
		}
	}
}

func TestSh1Numbers(t *testing.T) {
	head := sourced("module m(input a, output y); assign y = a; endmodule\n") + "build m\n"
	for _, n := range []string{"0", "1", "9", "10", "200", "201", "999999999", "1000000000"} {
		answers(t, head, "set "+n+" a 1", "ok\n")
	}
	for _, n := range []string{"0", "1", "199", "200"} {
		for _, way := range []string{"run ", "conserv 1 ", "warp 64 "} {
			answers(t, head, way+n, lateDump)
		}
	}
	for _, n := range []string{"1", "2", "9", "63", "64"} {
		for _, way := range []string{"conserv ", "warp "} {
			answers(t, head, way+n+" 200", lateDump)
		}
	}
}

// Changes up to the horizon count, that one included.
func TestSh1Horizon(t *testing.T) {
	head := sourced("module m(input a, output y); assign y = a; endmodule\n") + "build m\nset 0 a 1\nset 199 a 0\nset 200 a 1\nset 201 a 0\n"
	opening := shell.Run(head)
	for horizon, want := range map[string]string{"0": "#0\n1!\n1\"\n", "1": "#0\n1!\n1\"\n", "198": "#0\n1!\n1\"\n", "199": "#0\n1!\n1\"\n#199\n0!\n0\"\n", "200": "#0\n1!\n1\"\n#199\n0!\n0\"\n#200\n1!\n1\"\n"} {
		for _, way := range ways {
			runs(t, head+way+" "+horizon, opening+lateDump+want)
		}
	}
}

// sets is commands that set a at so many times from one on.
func sets(from, count int) string {
	var b strings.Builder
	for i := range count {
		fmt.Fprintf(&b, "set %d a %d\n", from+i, i%2)
	}
	return b.String()
}

func TestSh1MostChanges(t *testing.T) {
	full := lateHead + sets(100, 499) + "set 7 a x\n"
	ok := lateOk + strings.Repeat("ok\n", 500)
	runs(t, full, ok)
	for _, more := range []string{"set 0 a 0", "set 8 a 0", "set 99 a 0", "set 599 a 0", "set 1000000000 a 0"} {
		runs(t, full+more+"\n"+more+"\n", ok+argErr+argErr)
	}
	runs(t, full+"set 7 a 1\nset 100 a z\nset 598 a 0\nset 99 a 0\n", ok+"ok\nok\nok\n! 1\n")
	runs(t, full+"build m\n"+sets(3, 501), ok+"ok\nin a 1\nout y 1\n"+strings.Repeat("ok\n", 500)+argErr)
	runs(t, full+"build k\nbuild m\nset 3 a 1\nrun 9\n", ok+"no 0 80\nok\nin a 1\nout y 1\nok\n"+lateDump+"#3\n1!\n#5\n0\"\n")
	runs(t, full+"source\n.\nset 3 a 1\n", ok+"ok\n"+argErr)
	runs(t, full+"stats a 101\nset 3 a 1\nstats a 101\nset 7 a 0\nstats a 101", ok+"2 19 1000 0 1000 1000\n"+argErr+"2 19 1000 0 1000 1000\nok\n2 19 94000 0 94000 94000\n")
}

// room is a script whose transcript has just so many bytes, at least 12 of them behind a beginning of the right size.
func room(t *testing.T, head string, size int) string {
	t.Helper()
	left := size - len(shell.Run(head))
	for ; left > 16; left -= 6 {
		head += "x\n"
	}
	// Lines that are none have 6 bytes, one without a design 4, and a set has 3.
	for ; left%6 != 0; left -= 3 {
		if left < 3 {
			t.Fatal(left)
		}
		head += "set 1 a 0\n"
	}
	return head + strings.Repeat("x\n", left/6)
}

// wide is a design that has long values, each of which turns at each time.
func wide(ports int) string {
	var b strings.Builder
	b.WriteString("module m(input a")
	for i := range ports {
		fmt.Fprintf(&b, ", output [255:0] y%d", i)
	}
	b.WriteString("); wire [255:0] o; assign #1 o = a ? o + 1 : 0;\n")
	for i := range ports {
		fmt.Fprintf(&b, "assign y%d = o;\n", i)
	}
	return b.String() + "endmodule\n"
}

func TestSh1MostOut(t *testing.T) {
	head := sourced(wide(4)) + "build m\nset 0 a 0\nset 2 a 1\n"
	dump := len(shell.Run(head+"run 200\n")) - len(shell.Run(head))
	if dump < 100000 || dump > 300000 {
		t.Fatal(dump)
	}
	for dump := dump; len(shell.Run(head))+dump < api.MaxOut-100; {
		head += "run 200\n"
	}
	for off := range 10 {
		if off%3 != (api.MaxOut-len(shell.Run(head)))%3 {
			continue
		}
		text := room(t, head, api.MaxOut-off)
		full := shell.Run(text)
		if len(full) != api.MaxOut-off {
			t.Fatal(len(full), off)
		}
		for line, part := range map[string]string{"set 1 a 0": "ok\n", "nothing": lineErr, "set 1 k 0": argErr, "build k": "no 0 80\n", "run 200": strings.Repeat("x", dump), "stats a 0": "1 inf nan nan inf -inf\n"} {
			want := full + part
			if len(part) > off {
				want = full + "! 4\n"
			}
			runs(t, text+line+"\n", want)
			runs(t, text+line+"\n// a\n\n", want)
			if len(part) > off {
				runs(t, text+line+"\nset 1 a 0\nx\nrun 200\n", want)
				runs(t, text+line+"\nsource\n.\n", want)
			}
		}
	}
}

// A dump that has too many bytes by itself is refused, and the script goes on: there is room for that.
func TestSh1DumpTooLong(t *testing.T) {
	head := sourced(wide(40)) + "build m\nset 0 a 0\nset 2 a 1\n"
	opening := shell.Run(head)
	for _, way := range ways {
		runs(t, head+way+" 200\nset 1 a 0\n", opening+"! 4\nok\n")
	}
	got := strings.TrimPrefix(shell.Run(head+"run 50\nstats * 200\n"), opening)
	if !strings.HasPrefix(got, "$timescale") || !strings.HasSuffix(got, "\n") || strings.Contains(got, "! 4") {
		t.Error(brief(got))
	}
}

// The longest lines, and as many as there may be, end soon enough.
func TestR1Long(t *testing.T) {
	runs(t, strings.Repeat("x", api.MaxScript), lineErr)
	runs(t, "build "+strings.Repeat("p ", (api.MaxScript-6)/2), noneErr)
	runs(t, lateHead+"build m "+strings.Repeat("d ", 60000), lateOk+"no 0 1\n")
	runs(t, lateHead+"build m "+strings.Repeat("dead ", 20000), lateOk+"ok\nin a 1\nout y 1\n")
	runs(t, strings.Repeat("x\n", api.MaxScript/2), strings.Repeat(lineErr, api.MaxScript/2))
	runs(t, strings.Repeat("source\n", api.MaxScript/7), strings.Repeat(lineErr, api.MaxScript/7))
	runs(t, "source\n"+strings.Repeat("source\n", 18000)+".\n", "ok\n")
	runs(t, strings.Repeat("source\n.\n", 14000), strings.Repeat("ok\n", 14000))
	runs(t, "run "+strings.Repeat("9", 100000), lineErr)
}
