package vcd_test

import (
	"silkworm/api"
	"silkworm/conserv"
	"silkworm/elab"
	"silkworm/engine"
	"silkworm/lexer"
	"silkworm/lower"
	"silkworm/part"
	"silkworm/syntax"
	"silkworm/vcd"
	"silkworm/warp"
	"silkworm/wave"
	"slices"
	"strings"
	"testing"
)

// Vc2: made-up waveforms: what is written is what the chapter says, and read as it was; each beginning has a dump that begins the whole's.
func TestVc2MadeUp(t *testing.T) {
	d := dice(7)
	for i := range 2000 {
		w := d.wave(1+i%9, i%12)
		s := told(w)
		writes(t, w, s)
		for n := range w.List {
			begun := copied(w)
			begun.List = begun.List[:n]
			dump, e := vcd.Write(begun)
			if e != api.OK || len(dump) >= len(s) || !strings.HasPrefix(s, dump) {
				t.Fatalf("%s, %d does not begin %s", brief(dump), e, brief(s))
			}
		}
	}
}

// Vc2: of each beginning of a dump: it is read, if it is one, as a beginning of the waveform.
func TestVc2Beginnings(t *testing.T) {
	d := dice(5)
	count := 0
	for range 60 {
		w := d.wave(4, 6)
		s := told(w)
		for n := range s {
			if !looks(t, s[:n]) {
				continue
			}
			count++
			begun, _ := vcd.Read(s[:n])
			if !wave.Begins(begun, w) {
				t.Fatalf("%s, %s", brief(begun), brief(w))
			}
		}
	}
	if count < 100 {
		t.Errorf("%d are dumps", count)
	}
}

// Vc1, Vc2: a dump with each byte as each other one, each one left out, each one put in.
func TestVc2EachByte(t *testing.T) {
	s := dumpOf("$var wire 1 ! a $end/$var wire 2 \" _ $end", "x!/b00 \"", "#5/1!/bz1 \"/#9/b11 \"")
	right := 0
	try := func(text string) {
		if looks(t, text) {
			right++
		}
	}
	for i := range len(s) {
		try(s[:i] + s[i+1:])
		for b := range 256 {
			try(s[:i] + string([]byte{byte(b)}) + s[i+1:])
			try(s[:i] + string([]byte{byte(b)}) + s[i:])
		}
	}
	if right < 500 {
		t.Errorf("%d are dumps", right)
	}
}

// Vc1, Vc2: behind the first values, all short lists of lines.
func TestVc2AllLines(t *testing.T) {
	head := dumpOf("$var wire 1 ! a $end/$var wire 2 \" b $end", "x!/b00 \"", "")
	of := []string{"#0\n", "#1\n", "#2\n", "#01\n", "0!\n", "1!\n", "x!\n", "b00 \"\n", "b01 \"\n", "b0 \"\n", "0#\n", "$end\n", "\n"}
	right, wrong := 0, 0
	var each func(text string, rest int)
	each = func(text string, rest int) {
		if looks(t, text) {
			right++
		} else {
			wrong++
		}
		if rest == 0 {
			return
		}
		for _, line := range of {
			each(text+line, rest-1)
		}
	}
	each(head, 4)
	if right < 20 || wrong < 25000 {
		t.Errorf("%d are dumps, %d are none", right, wrong)
	}
}

// Vc1, Vc2: all short lists of the lines of which a dump without changes is made.
func TestVc2AllHeads(t *testing.T) {
	of := []string{"$timescale 1 ns $end\n", "$scope module top $end\n", "$var wire 1 ! a $end\n", "$var wire 1 \" _ $end\n", "$upscope $end\n", "$enddefinitions $end\n", "$dumpvars\n", "0!\n", "1\"\n", "$end\n"}
	whole := strings.Join(of, "")
	reads(t, whole, waveOf("a=0 =1"))
	// Each line at each place, each two the other way round, each set left out.
	for i := range of {
		for j := range of {
			list := slices.Clone(of)
			list[i], list[j] = list[j], list[i]
			if looks(t, strings.Join(list, "")) != (i == j) {
				t.Errorf("%d and %d the other way round", i, j)
			}
			if looks(t, strings.Join(slices.Insert(slices.Clone(of), i, of[j]), "")) {
				t.Errorf("%d once more at %d", j, i)
			}
		}
	}
	right := 0
	for set := range 1 << len(of) {
		var text strings.Builder
		for i, line := range of {
			if set>>i&1 == 0 {
				text.WriteString(line)
			}
		}
		if looks(t, text.String()) {
			right++
		}
	}
	if right != 3 {
		t.Errorf("%d are dumps, not those of two nets, one and none", right)
	}
}

// spoilt is bytes with something of them another way.
func (d *dice) spoilt(s string) string {
	list := strings.SplitAfter(s, "\n")
	i, j := d.roll(len(list)), d.roll(len(list))
	at := d.roll(len(s))
	switch d.roll(7) {
	case 0:
		return s[:at] + s[at+1:]
	case 1:
		return s[:at] + string([]byte{byte(d.roll(256))}) + s[at:]
	case 2:
		return s[:at] + d.text("01xz!\"#b ~\n", 1) + s[at+1:]
	case 3:
		list = slices.Delete(list, i, i+1)
	case 4:
		list = slices.Insert(list, i, list[j])
	case 5:
		list[i], list[j] = list[j], list[i]
	default:
		return s + d.text("01xz!\"#b \n", 1+d.roll(4)) + "\n"
	}
	return strings.Join(list, "")
}

// Vc1, Vc2, P5: whatever bytes come of dumps: they are a waveform's dump, or refused.
func TestVc2Spoilt(t *testing.T) {
	d := dice(11)
	right, wrong := 0, 0
	for i := range 3000 {
		s := told(d.wave(1+i%5, i%7))
		for range 6 {
			bad := d.spoilt(s)
			if looks(t, bad) {
				right++
				s = bad
			} else {
				wrong++
			}
		}
	}
	if right < 1000 || wrong < 5000 {
		t.Errorf("%d are dumps, %d are none", right, wrong)
	}
}

// R1, P5: whatever bytes end in an answer.
func TestVc2AnyBytes(t *testing.T) {
	d := dice(13)
	for i := range 20000 {
		var s string
		if i%2 == 0 {
			s = opening + closing + "$end\n"
		}
		for range d.roll(12) {
			s += []string{"\n", " ", "$end\n", "$var wire 1 ! ", "#", "b", "1!", "0\n", "\x00", "\xff", "$var \n", "b \n", "#\n", "!\n"}[d.roll(14)]
		}
		looks(t, s)
	}
}

const source = "module m(input k, input [3:0] a, output reg [3:0] q, output y, output [3:0] z, output [4:0] s); " +
	"always @(posedge k) q <= a; assign #2 y = ^q; assign #3 z = ~a; assign #1 s = q + z; endmodule"

// netlist is one of several parts, with its nets' names and a stimulus.
func netlist(t *testing.T) (api.Netlist, []string, []api.Change) {
	t.Helper()
	tokens, _ := lexer.Lex(source)
	modules, _ := syntax.Parse(tokens)
	f, why := elab.Build(modules, "m")
	l, e := lower.Run(f)
	if len(why) > 0 || e != api.OK || l.Ports != 6 {
		t.Fatal(why, e, l.Ports)
	}
	var names []string
	for _, n := range f.Nets {
		names = append(names, n.Name)
	}
	stim := waveOf("| 0 0 0, 0 1 0001, 2 0 1, 3 0 0, 3 1 1x10, 4 0 1, 5 1 zzzz, 7 0 0, 8 1 1000, 9 0 1, 9 1 0001").List
	return l, names, stim
}

// P1, Vc2: what the layers below tell of a script that ends early has a dump that begins the whole's; told to be whole it is that.
func TestVc2Simulated(t *testing.T) {
	l, names, stim := netlist(t)
	const horizon = 15
	w, e := engine.Run(l, stim, horizon)
	if e != api.OK || len(w.List) < 20 {
		t.Fatal(w, e)
	}
	whole := told(w)
	writes(t, w, whole)
	begins := func(other api.Wave, all bool, e api.Errno) {
		t.Helper()
		s, wrong := vcd.Write(other)
		if e != api.OK || wrong != api.OK || !strings.HasPrefix(whole, s) || all && s != whole {
			t.Fatal(brief(s), all, e, wrong)
		}
		reads(t, s, other)
	}
	for n := 1; n < 5; n++ {
		p, _ := part.Run(l, n)
		for rounds := range 40 {
			told, all, e := conserv.Run(l, p, stim, horizon, slices.Repeat(conserv.Round(p), rounds))
			begins(told, all, e)
			told, all, _, e = warp.Run(l, p, stim, horizon, api.MaxQueue, slices.Repeat(warp.Round(p), rounds))
			begins(told, all, e)
		}
	}
	w.Names = names
	writes(t, w, told(w))
	if s := told(w); !strings.Contains(s, "$var wire 5 & s $end\n") || !strings.Contains(s, "#6\n") {
		t.Error(s)
	}
}
