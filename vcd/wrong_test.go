package vcd_test

import (
	"silkworm/api"
	"silkworm/vcd"
	"silkworm/wave"
	"slices"
	"strings"
	"testing"
)

// What layer 18 refuses has no dump, nor has a name that stands for none.
func TestVc1WriteWrong(t *testing.T) {
	for _, w := range []api.Wave{
		{Names: []string{"a"}}, {Wides: []int{1}}, {First: []string{"0"}}, {Names: []string{"a"}, Wides: []int{1}}, {List: []api.Change{{}}}, {List: []api.Change{{Value: "0"}}},
		{Names: []string{"a", "b"}, Wides: []int{1, 1}, First: []string{"0"}}, {Names: []string{""}, Wides: []int{0}, First: []string{""}}, {Names: []string{"a"}, Wides: []int{2}, First: []string{"0"}},
		waveOf("a=2"), waveOf("a=X"), waveOf("\x7f=0"), waveOf("a\nb=0"), waveOf("é=0"),
		waveOf("_=0"), waveOf("a=0 _=0"), waveOf("_=0 a=0"), waveOf("=0 _=0"), waveOf("_=00 | 1 0 11"),
	} {
		noWrite(t, w, api.ErrArg)
	}
	for _, text := range []string{
		"1 2 1", "1 -1 1", "-1 0 1", "4611686018427387904 0 1", "2 0 1, 1 0 0", "2 1 01, 2 0 1", "2 0 1, 2 0 0", "1 0 x", "0 1 00", "1 0 1, 2 0 1", "1 0 01", "1 1 1", "1 0 2", "1 0 é",
	} {
		noWrite(t, waveOf("a=x b=00 | "+text), api.ErrArg)
	}
	w := waveOf("a=0 a=0 a=0 a=0")
	writes(t, w, told(w))
	for i := range w.Names {
		bad := copied(w)
		bad.Names[i] = "_"
		if wave.Check(bad) != api.OK {
			t.Error("refused by layer 18 already")
		}
		noWrite(t, bad, api.ErrArg)
	}
}

// faults are parts of a dump, and what they may not be.
func faults() map[string][]string {
	return map[string][]string{
		"$timescale 1 ns $end\n":   {"", "$timescale 1 ns $end\n\n", "$timescale 1 ns  $end\n", "$timescale 1ns $end\n", "$timescale 10 ns $end\n", "$timescale 1 ns\n$end\n", "$timescale 1 ns $end\r\n", "\ufeff$timescale 1 ns $end\n", "$date $end\n$timescale 1 ns $end\n"},
		"$scope module top $end\n": {"", "$scope module top $end\n$scope module top $end\n", "$scope module m $end\n", "$scope begin top $end\n", "$scope module top $end \n"},
		"$upscope $end\n":          {"", "\n$upscope $end\n", "$upscope\n", "$upscope $end\n$upscope $end\n"},
		"$enddefinitions $end\n":   {"", "$enddefinitions\n", "$end\n", "$enddefinitions $end\n$enddefinitions $end\n"},
		"$dumpvars\n":              {"", "$dumpvars $end\n", "#0\n$dumpvars\n", "$dumpvars\n$dumpvars\n", "$dumpall\n"},
		"$var wire 1 ! a $end\n": {
			"", "$var wire 1 ! a\n", "$var wire 1 ! $end\n", "$var wire 1 !  $end\n", "$var wire 1 ! a b $end\n", "$var wire 1 ! a [0] $end\n", "$var wire 1  ! a $end\n", " $var wire 1 ! a $end\n", "$var wire 1 ! a $end \n", "$var\twire 1 ! a $end\n",
			"$var reg 1 ! a $end\n", "$vat wire 1 ! a $end\n", "$var wire 1 ! a $End\n", "$var wire 0 ! a $end\n", "$var wire 01 ! a $end\n", "$var wire +1 ! a $end\n", "$var wire -1 ! a $end\n", "$var wire 2 ! a $end\n", "$var wire x ! a $end\n", "$var wire  ! a $end\n", "$var wire 1_0 ! a $end\n",
			"$var wire 1 \" a $end\n", "$var wire 1 # a $end\n", "$var wire 1 !! a $end\n", "$var wire 1  a $end\n", "$var wire 1 ! a\x00 $end\n", "$var wire 1 ! \x7f $end\n", "$var wire 1 ! é $end\n", "$var wire 1 ! a $end\n$var wire 1 ! a $end\n", "$var wire 1 ! a $end\n\n", "$var wire 18446744073709551617 ! a $end\n",
		},
		"$var wire 2 \" b $end\n": {"", "$var wire 3 \" b $end\n", "$var wire 1 \" b $end\n", "$var wire 2 ! b $end\n", "$var wire 2 # b $end\n", "$var wire 2 \" b $end\n$var wire 2 # b $end\n", "$var wire 2 \" b[1:0] b $end\n"},
		"x!\n":                    {"", "X!\n", "2!\n", "!\n", "x\n", "x !\n", "x! \n", "bx !\n", "xx!\n", "bxx !\n", "x\"\n", "x#\n", "x!!\n", "x!\nx!\n", "#0\nx!\n", "bx!\n", "\nx!\n", "b00 \"\nx!\n", "x!\r\n"},
		"b00 \"\n$end\n":          {"$end\n", "b00 \"\n", "b00 \"\n$end\n$end\n", "b0 \"\n$end\n", "b000 \"\n$end\n", "b00\"\n$end\n", "b00  \"\n$end\n", "B00 \"\n$end\n", "b00 !\n$end\n", "b00 #\n$end\n", "00\"\n$end\n", "0\"\n$end\n", "b00 \" \n$end\n", "b0X \"\n$end\n", "b00\n$end\n", "b\n$end\n", "b \"\n$end\n", "r0 \"\n$end\n", "b00 \"\nb00 \"\n$end\n", "b00 \"\n$end \n", "b00 \"\n\n$end\n"},
		"#5\n1!\n": {
			"#5\n", "1!\n", "5\n1!\n", "#05\n1!\n", "#+5\n1!\n", "#-5\n1!\n", "# 5\n1!\n", "#5 \n1!\n", "#5.0\n1!\n", "#0x5\n1!\n", "#\n1!\n", "##5\n1!\n", "#5_0\n1!\n", "#5\n#5\n1!\n", "#4\n#5\n1!\n", "#7\n1!\n", "#8\n1!\n", "#4611686018427387904\n1!\n", "#9223372036854775808\n1!\n", "#18446744073709551621\n1!\n",
			"#5\nx!\n", "#5\n1\"\n", "#5\n1#\n", "#5\n1!\n1!\n", "#5\n1!\n0!\n", "#5\n0!\n1!\n", "#5\n1!\n#5\n", "#5\n1!\n#6\n", "#5\n\n1!\n", "\n#5\n1!\n", "#5\n1!\n\n", "#5\r\n1!\n", "#5\n1 !\n", "#5\nb1 !\n", "#5\n1!!\n", "#5\n2!\n", "#5\n1\n", "#5\n!\n", "#5\nb1 \"\n", "#5 1!\n", "#5\n1!\n$end\n", "$end\n#5\n1!\n", "#5\n1!\n$dumpoff\n", "#5\n1!\nb00 \"\n", "#5\nb11 \"\n1!\n",
		},
		"#7\n0!\nbz1 \"\n": {"#7\n0!\nbz1 \"", "#7\n0!\nbz1", "#7\n0!\nb", "#7\n0!\nbz1 \"\n#", "#7\n0!\nbz1 \"\n#8", "#7\n0!\nbz1 \"\n#8\n", "#7\n0!\nbz1 \"\n\n", "#7\n0!\nbz1 \"\n ", "#7\n0!\nbz1 \"\n\x00", "#7\nbz1 \"\n0!\n", "#7\n0!\nb1 \"\n", "#7\n0!\nb0z1 \"\n", "#7\n0!\nb00 \"\n", "#7\n1!\nbz1 \"\n", "#7\n0!\n#7\nbz1 \"\n", "#7\n0!\n#5\nbz1 \"\n", "#5\n0!\nbz1 \"\n", "#4\n0!\nbz1 \"\n", "#7\n0!\nbz1 \"\nbz0 \"\n", "#7\n0!\nbz1 \"\n0!\n"},
	}
}

// Of a dump, each fault alone makes bytes that are none.
func TestVc1ReadWrong(t *testing.T) {
	s := dumpOf("$var wire 1 ! a $end/$var wire 2 \" b $end", "x!/b00 \"", "#5/1!/#7/0!/bz1 \"")
	reads(t, s, waveOf("a=x b=00 | 5 0 1, 7 0 0, 7 1 z1"))
	for part, list := range faults() {
		if strings.Count(s, part) != 1 {
			t.Fatalf("%q is not there once", part)
		}
		for _, bad := range list {
			if bad == part {
				t.Fatalf("%q is no fault", part)
			}
			text := strings.Replace(s, part, bad, 1)
			if _, is := meant(text); is {
				t.Errorf("a test whose own words take %q", bad)
			}
			noRead(t, text, api.ErrVcd)
		}
	}
	for _, bad := range []string{"", "\n", " ", "$end", "$end\n", s[1:], s[:len(s)-1], s + s, "\n" + s, s + "\n", strings.ToUpper(s), strings.ReplaceAll(s, "\n", "\r\n"), strings.ReplaceAll(s, "\n", " "), strings.ReplaceAll(s, " ", "\n"), strings.ReplaceAll(s, " ", "  ")} {
		noRead(t, bad, api.ErrVcd)
	}
}

// room is a list with more behind its end, of which nobody may know.
func room[T any](list []T, more ...T) []T {
	return slices.Concat(list, more)[:len(list)]
}

func TestR3HandedIn(t *testing.T) {
	plainly := waveOf("a=x b=00 | 1 0 1, 3 0 0, 3 1 0x")
	for _, more := range []api.Change{{Time: 5, Value: "1"}, {Time: -1, Net: -1}} {
		w := api.Wave{Names: room(plainly.Names, "_"), Wides: room(plainly.Wides, 0), First: room(plainly.First, "2"), List: room(plainly.List, more)}
		writes(t, w, told(plainly))
		if !same(w, plainly) || w.Names[:3][2] != "_" || w.Wides[:3][2] != 0 || w.First[:3][2] != "2" || w.List[:4][3] != more {
			t.Errorf("%s", brief(w))
		}
	}
}

// R3: what is read is new memory each time.
func TestR3NewMemory(t *testing.T) {
	want := waveOf("a=x b=00 | 1 0 1, 3 0 0, 3 1 0x")
	s := told(want)
	first, _ := vcd.Read(s)
	other, _ := vcd.Read(s)
	for i := range first.Names {
		first.Names[i], first.Wides[i], first.First[i] = "spoilt", -7, "spoilt"
	}
	for i := range first.List {
		first.List[i] = api.Change{Time: -7, Net: -7, Value: "spoilt"}
	}
	if !same(other, want) {
		t.Error(brief(other))
	}
	reads(t, s, want)
}

// R3: nil and the empty list are the same.
func TestR3NilAndEmpty(t *testing.T) {
	s, _ := vcd.Write(api.Wave{})
	writes(t, api.Wave{Names: []string{}, Wides: []int{}, First: []string{}, List: []api.Change{}}, s)
	writes(t, api.Wave{Wides: []int{}}, s)
}

// R4: the same calls have the same answers, whatever was called in between.
func TestR4Again(t *testing.T) {
	w, bad := waveOf("a=x b=00 | 1 0 1, 3 0 0, 3 1 0x"), waveOf("a=x b=00 | 1 0 x")
	s := told(w)
	for range 3 {
		writes(t, w, s)
		noWrite(t, bad, api.ErrArg)
		noRead(t, s+"#5\n", api.ErrVcd)
		noWrite(t, waveOf("_=0"), api.ErrArg)
		noRead(t, strings.Repeat(s, api.MaxOut/len(s)+1), api.ErrLong)
	}
}
