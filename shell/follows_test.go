package shell_test

import (
	"fmt"
	"silkworm/api"
	"silkworm/part"
	"silkworm/shell"
	"silkworm/vcd"
	"silkworm/wave"
	"slices"
	"strings"
	"sync"
	"testing"
)

// Sh2, P1, P4: one waveform, by whatever back end, parts and passes.
func TestSh2(t *testing.T) {
	changing, parted := 0, 0
	for seed := range 400 {
		d := dice(seed)
		source, ports := makeSource(&d)
		horizon := d.roll(40)
		if d.roll(20) == 0 {
			horizon = 200
		}
		sets := strings.Join(makeSets(&d, ports, 14), "\n") + "\n"
		want := ""
		for _, passes := range []string{"", makePasses(&d), makePasses(&d)} {
			head := sourced(source) + "build m" + passes + "\n" + sets
			opening := shell.Run(head)
			if strings.Contains(opening, "!") || strings.Contains(opening, "no") {
				t.Fatalf("%s\n%s", head, opening)
			}
			for _, way := range ways {
				got := strings.TrimPrefix(shell.Run(fmt.Sprintf("%s%s %d\n", head, way, horizon)), opening)
				if want == "" {
					want = got
				}
				if got != want || !strings.HasPrefix(got, "$timescale") {
					t.Fatalf("%s%s %d: %s\nnot %s", head, way, horizon, got, want)
				}
			}
		}
		dumps(t, want, ports, horizon)
		if strings.Count(want, "\n#") > 5 {
			changing++
		}
		_, l, _ := shell.Compile(source, "m", nil)
		if p, _ := part.Run(l, 64); p.N > 2 {
			parted++
		}
	}
	if changing < 300 || parted < 200 {
		t.Error(changing, parted)
	}
}

// Sh2: a design without ports has a waveform without nets, also if no node of it is left: then there are no parts, and still all ways put out the same.
func TestSh2WithoutNodes(t *testing.T) {
	want := dumpOf("", "", "")
	for source, nodesLeft := range map[string]bool{
		"module m(); endmodule":                                                   false,
		"module m(); wire n; endmodule":                                           false,
		"module m(); wire n; assign n = 1; endmodule":                             false,
		"module m(); wire n; assign n = ~n; endmodule":                            false,
		"module m(); wire n, k; assign #2 n = ~n; assign k = n; endmodule":        false,
		"module m(); reg n; wire c; always @(posedge c) n <= ~n; endmodule":       false,
		"module m(); s u (); endmodule module s(); wire n; assign n=0; endmodule": false,
		"module m(output y); endmodule":                                           true,
		"module m(input a); endmodule":                                            true,
	} {
		_, l, d := shell.Compile(source, "m", []string{"dead"})
		if len(d) > 0 || (len(l.Nodes) > 0) != nodesLeft {
			t.Fatalf("%s: %v, %v", source, l, d)
		}
		if nodesLeft {
			continue
		}
		head := sourced(source+"\n") + "build m dead\n"
		for parts := 1; parts <= api.MaxParts; parts++ {
			runs(t, fmt.Sprintf("%sconserv %d 200\nwarp %d 9\n", head, parts, parts), "ok\nok\n"+want+want)
		}
		for horizon := range 201 {
			runs(t, fmt.Sprintf("%srun %d\nconserv 2 %d\nwarp 64 %d\nstats * 1\nrun 0\n", head, horizon, horizon, horizon), "ok\nok\n"+want+want+want+"0 0 nan nan inf -inf\n"+want)
		}
	}
}

// Sh2: a made-up design within a module without ports, of which some passes leave no node.
func TestSh2Within(t *testing.T) {
	d := dice(12)
	none, some := 0, 0
	for range 60 {
		source, ports := makeSource(&d)
		source += within(ports)
		passes := makePasses(&d)
		_, l, _ := shell.Compile(source, "bare", strings.Fields(passes))
		if len(l.Nodes) == 0 {
			none++
		} else {
			some++
		}
		for _, way := range ways {
			runs(t, fmt.Sprintf("%sbuild bare%s\n%s %d\n", sourced(source), passes, way, d.roll(40)), "ok\nok\n"+dumpOf("", "", ""))
		}
	}
	if none < 10 || some < 10 {
		t.Error(none, some)
	}
}

// within is a module bare without ports that has an instance of m.
func within(ports []port) string {
	nets, binds := "", []string{}
	for _, p := range ports {
		nets += fmt.Sprintf("wire [%d:0] %s;\n", p.wide-1, p.name)
		binds = append(binds, fmt.Sprintf(".%s(%s)", p.name, p.name))
	}
	return "module bare();\n" + nets + "m u (" + strings.Join(binds, ", ") + ");\nendmodule\n"
}

// dumps tells that a text is a dump of the ports, up to a horizon (P5).
func dumps(t *testing.T, text string, ports []port, horizon int) {
	t.Helper()
	w, e := vcd.Read(text)
	if e != api.OK || len(w.Names) != len(ports) {
		t.Fatalf("%s: %d", brief(text), e)
	}
	for i, p := range ports {
		if w.Names[i] != p.name || w.Wides[i] != p.wide {
			t.Fatalf("%s: %v", brief(text), p)
		}
	}
	for _, c := range w.List {
		if c.Time > horizon {
			t.Fatalf("%s: a change at %d", brief(text), c.Time)
		}
	}
}

// En2 of the whole: what is told up to a horizon begins what is told up to a longer one, as a waveform and as a dump.
func TestP1Longer(t *testing.T) {
	d := dice(5)
	for range 30 {
		source, ports := makeSource(&d)
		head := sourced(source) + "build m" + makePasses(&d) + "\n" + strings.Join(makeSets(&d, ports, 10), "\n") + "\n"
		opening := shell.Run(head)
		last := ""
		for horizon := range 20 {
			text := strings.TrimPrefix(shell.Run(fmt.Sprintf("%s%s %d", head, ways[d.roll(len(ways))], horizon)), opening)
			a, _ := vcd.Read(last)
			b, e := vcd.Read(text)
			if !strings.HasPrefix(text, last) || e != api.OK || last != "" && !wave.Begins(a, b) {
				t.Fatalf("%s: %s, not %s", brief(head), brief(text), brief(last))
			}
			last = text
		}
	}
}

// A source that was printed tells the same, and is printed the same.
func TestSh1PrintedAgain(t *testing.T) {
	d := dice(6)
	for range 60 {
		source, ports := makeSource(&d)
		behind := "build m\n" + strings.Join(makeSets(&d, ports, 10), "\n") + "\nrun 25\nprint\n"
		printed := strings.TrimPrefix(shell.Run(sourced(source)+"print\n"), "ok\n")
		if !strings.HasPrefix(printed, "module part ") {
			t.Fatal(brief(printed))
		}
		runs(t, sourced(printed)+behind, shell.Run(sourced(source)+behind))
	}
}

// pieces is lines of which scripts are made up.
func pieces() []string {
	return []string{
		"source", ".", "source\n" + strings.TrimSuffix(late, "\n") + "\n.", "source\nmodule k(output [1:0] q, input [1:0] b); assign #1 q = b; endmodule\n.", "module k(", "", " ", "// remark", "build m", "build k dead", " build  m  fold share ", "build none",
		"set 1 a 0", "set 1 a 1", "set 0 a x", "set 2 b 10", "set 3 y 1", "set 1 a", "set 01 a 1", "run 5", "run 201", "run", "conserv 2 5", "conserv 65 5", "warp 2 5", "warp 0 5", "stats * 5", "stats y 5", "stats k 5", "print", "nothing", "print x",
	}
}

// Sh1, Sh3: all short scripts.
func TestSh3Short(t *testing.T) {
	list := pieces()
	for _, a := range list {
		looks(t, a)
		looks(t, a+"\n")
		for _, b := range list {
			looks(t, a+"\n"+b)
			for _, c := range list {
				looks(t, a+"\n"+b+"\n"+c+"\n")
			}
		}
	}
}

// Sh1, Sh3: all short scripts behind a design, and many longer ones.
func TestSh3Long(t *testing.T) {
	list := pieces()
	for _, a := range list {
		for _, b := range list {
			looks(t, lateHead+"set 3 a 0\n"+a+"\n"+b+"\nrun 5\n")
		}
	}
	d := dice(8)
	for range 1500 {
		var lines []string
		for range d.roll(25) {
			lines = append(lines, d.one(list...))
		}
		looks(t, strings.Join(lines, "\n"))
	}
}

// Sh1, Sh3: made-up designs, stimuli and horizons, with spoilt lines.
func TestSh3MadeUp(t *testing.T) {
	d := dice(9)
	dumped := 0
	for range 150 {
		var lines []string
		for range 1 + d.roll(3) {
			source, ports := makeSource(&d)
			if d.roll(4) == 0 {
				source = spoilt(&d, source)
			}
			lines = append(lines, strings.TrimSuffix(sourced(source), "\n"), "build m"+makePasses(&d))
			sets := makeSets(&d, ports, d.roll(12))
			lines = append(lines, sets...)
			for range d.roll(6) {
				lines = append(lines, madeLine(&d, ports))
			}
		}
		for range d.roll(4) {
			at := d.roll(len(lines))
			lines[at] = spoilt(&d, lines[at])
		}
		if strings.Contains(looks(t, strings.Join(lines, "\n")), "$dumpvars") {
			dumped++
		}
	}
	if dumped < 75 {
		t.Error(dumped)
	}
}

func madeLine(d *dice, ports []port) string {
	horizon := fmt.Sprint(d.roll(30))
	name := ports[d.roll(len(ports))].name
	return d.one("run "+horizon, "conserv "+fmt.Sprint(1+d.roll(64))+" "+horizon, "warp "+fmt.Sprint(1+d.roll(64))+" "+horizon, "stats "+name+" "+horizon, "stats * "+horizon, "print", "build part dead", "set "+horizon+" "+name+" 1")
}

// R1: whatever bytes there are, a script ends, and has a transcript as the chapter's words have it.
func TestR1Bytes(t *testing.T) {
	d := dice(10)
	for range 3000 {
		var b []byte
		for range d.roll(60) {
			b = append(b, d.one("\n", "\n", " ", "/", ".", "0", "1", "a", "m", "\x00", "\t", "\r", "\xff", string(byte(d.roll(256))), "run", "source", "build", "set", "print", "stats", "warp", "conserv")...)
		}
		looks(t, string(b))
	}
	text := lateHead + "set 1 a 0\nset 2 a 1\nconserv 2 9\nwarp 2 9\nstats * 9\nprint\nrun 9\n"
	for i := range len(text) {
		for _, b := range []byte{0, ' ', '\n', '.', '/', '0', 'a', 0xff} {
			looks(t, text[:i]+string(b)+text[i+1:])
		}
		looks(t, text[:i])
		looks(t, text[:i]+text[i+1:])
	}
}

// R4: the same scripts have the same transcripts, also beside others at the same time.
func TestR4Run(t *testing.T) {
	d := dice(11)
	var scripts, want []string
	for range 8 {
		source, ports := makeSource(&d)
		text := sourced(source) + "build m" + makePasses(&d) + "\n" + strings.Join(makeSets(&d, ports, 9), "\n") + "\nrun 20\nconserv 3 20\nwarp 3 20\nstats * 20\nprint\n"
		scripts, want = append(scripts, text), append(want, shell.Run(text))
	}
	got := make([]string, len(scripts))
	var all sync.WaitGroup
	for i := range scripts {
		all.Go(func() {
			for range 3 {
				got[i] = shell.Run(scripts[i])
			}
		})
	}
	all.Wait()
	if !slices.Equal(got, want) {
		t.Error("other transcripts")
	}
}
