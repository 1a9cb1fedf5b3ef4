package vcd_test

import (
	"silkworm/api"
	"silkworm/vcd"
	"strconv"
	"strings"
	"testing"
)

func TestVc1Code(t *testing.T) {
	seen := map[string]int{}
	for n, want := range codes {
		code, e := vcd.Code(n)
		if e != api.OK || code != want {
			t.Fatalf("%d: %q, %d, not %q", n, code, e, want)
		}
		if other, there := seen[code]; there {
			t.Fatalf("%d and %d: %q", other, n, code)
		}
		seen[code] = n
	}
	for n, want := range map[int]string{0: "!", 1: "\"", 93: "~", 94: "!!", 95: "\"!", 187: "~!", 188: "!\"", 189: "\"\"", 4094: "UK", 4095: "VK"} {
		if code, e := vcd.Code(n); e != api.OK || code != want {
			t.Errorf("%d: %q, %d, not %q", n, code, e, want)
		}
	}
	for _, n := range []int{-1, -2, -94, -95, -4096, 4096, 4097, 8192, 8929, 8930, 1 << 31, 1 << 32, 1<<32 + 5, -1 << 32, least, least + 1, most - 1, most} {
		if code, e := vcd.Code(n); e != api.ErrArg || code != "" {
			t.Errorf("%d: %q, %d", n, code, e)
		}
	}
}

func TestVc1Example(t *testing.T) {
	writes(t, waveOf("a=0 | 5 0 1"), opening+"$var wire 1 ! a $end\n"+closing+"0!\n$end\n#5\n1!\n")
}

func TestVc1WrittenOut(t *testing.T) {
	writes(t, api.Wave{}, "$timescale 1 ns $end\n$scope module top $end\n$upscope $end\n$enddefinitions $end\n$dumpvars\n$end\n")
	for _, x := range []struct{ wave, nets, first, changes string }{
		{"a=x", "$var wire 1 ! a $end", "x!", ""},
		{"=z", "$var wire 1 ! _ $end", "z!", ""},
		{"=0 =1 =0", "$var wire 1 ! _ $end/$var wire 1 \" _ $end/$var wire 1 # _ $end", "0!/1\"/0#", ""},
		{"a=0 a=0", "$var wire 1 ! a $end/$var wire 1 \" a $end", "0!/0\"", ""},
		{"a=01xz", "$var wire 4 ! a $end", "b01xz !", ""},
		{"a=00 | 0 0 01", "$var wire 2 ! a $end", "b00 !", "#0/b01 !"},
		{"a=0 | 0 0 1, 1 0 x, 2 0 z", "$var wire 1 ! a $end", "0!", "#0/1!/#1/x!/#2/z!"},
		{"a=x b=00 | 5 0 1, 5 1 z1", "$var wire 1 ! a $end/$var wire 2 \" b $end", "x!/b00 \"", "#5/1!/bz1 \""},
		{"a=x b=00 c=0 | 1 1 11, 3 0 1, 3 2 1, 10 0 0, 10 1 00, 10 2 z", "$var wire 1 ! a $end/$var wire 2 \" b $end/$var wire 1 # c $end", "x!/b00 \"/0#", "#1/b11 \"/#3/1!/1#/#10/0!/b00 \"/z#"},
		{"u.a=0 u[3].b=x", "$var wire 1 ! u.a $end/$var wire 1 \" u[3].b $end", "0!/x\"", ""},
		{"$end=0 $var=1 $upscope=x | 7 0 1", "$var wire 1 ! $end $end/$var wire 1 \" $var $end/$var wire 1 # $upscope $end", "0!/1\"/x#", "#7/1!"},
		{"__=0 _a=0 a_=0", "$var wire 1 ! __ $end/$var wire 1 \" _a $end/$var wire 1 # a_ $end", "0!/0\"/0#", ""},
		{"#=0 b=01 x=x 1=1 | 1 0 1", "$var wire 1 ! # $end/$var wire 2 \" b $end/$var wire 1 # x $end/$var wire 1 $ 1 $end", "0!/b01 \"/x#/1$", "#1/1!"},
		{"a=0 | 4611686018427387902 0 1, 4611686018427387903 0 0", "$var wire 1 ! a $end", "0!", "#4611686018427387902/1!/#4611686018427387903/0!"},
		{"a=0 b=1 | 9 1 0, 10 0 1, 4294967296 1 1", "$var wire 1 ! a $end/$var wire 1 \" b $end", "0!/1\"", "#9/0\"/#10/1!/#4294967296/1\""},
	} {
		s := dumpOf(x.nets, x.first, x.changes)
		writes(t, waveOf(x.wave), s)
		if !looks(t, s) {
			t.Errorf("a test whose own words do not take %s", brief(s))
		}
	}
}

func TestVc1Names(t *testing.T) {
	for b := range 256 {
		for _, name := range []string{string([]byte{byte(b)}), string([]byte{byte(b), 'a'}), string([]byte{'a', byte(b)}), string([]byte{'_', byte(b)})} {
			w := api.Wave{Names: []string{"k", name}, Wides: []int{1, 1}, First: []string{"0", "0"}}
			if b >= 33 && b <= 126 && name != "_" {
				writes(t, w, opening+"$var wire 1 ! k $end\n$var wire 1 \" "+name+" $end\n"+closing+"0!\n0\"\n$end\n")
			} else {
				noWrite(t, w, api.ErrArg)
			}
			looks(t, opening+"$var wire 1 ! "+name+" $end\n"+closing+"0!\n$end\n")
		}
	}
	for _, n := range []int{1, 64, 65, 255, 256} {
		name := strings.Repeat("n", n)
		writes(t, waveOf(name+"=0"), opening+"$var wire 1 ! "+name+" $end\n"+closing+"0!\n$end\n")
	}
	for _, n := range []int{257, 258, 512, 65536, 1 << 19} {
		name := strings.Repeat("n", n)
		noWrite(t, waveOf(name+"=0"), api.ErrArg)
		noRead(t, opening+"$var wire 1 ! "+name+" $end\n"+closing+"0!\n$end\n", api.ErrVcd)
	}
}

func TestVc1Widths(t *testing.T) {
	for wide := 1; wide <= 300; wide++ {
		low, high := strings.Repeat("0", wide), strings.Repeat("z", wide)
		blank, b := " ", "b"
		if wide == 1 {
			blank, b = "", ""
		}
		w := waveOf("a=" + low + " | 3 0 " + high)
		s := dumpOf("$var wire "+strconv.Itoa(wide)+" ! a $end", b+low+blank+"!", "#3/"+b+high+blank+"!")
		if wide <= 256 {
			writes(t, w, s)
		} else {
			noWrite(t, w, api.ErrArg)
			noRead(t, s, api.ErrVcd)
		}
		for _, other := range []int{wide - 1, wide + 1, 0, -wide, wide + 256} {
			w.Wides[0] = other
			noWrite(t, w, api.ErrArg)
			noRead(t, strings.Replace(s, "wire "+strconv.Itoa(wide)+" ", "wire "+strconv.Itoa(other)+" ", 1), api.ErrVcd)
		}
	}
}

func TestVc1Times(t *testing.T) {
	for _, time := range []int{0, 1, 9, 10, 99, 100, 1<<31 - 1, 1 << 31, 1 << 32, 1<<53 + 1, api.MaxTime - 1, api.MaxTime} {
		word := strconv.Itoa(time)
		writes(t, waveOf("a=0 | "+word+" 0 1"), dumpOf("$var wire 1 ! a $end", "0!", "#"+word+"/1!"))
	}
	for _, time := range []int{-1, least, api.MaxTime + 1, most} {
		word := strconv.Itoa(time)
		noWrite(t, waveOf("a=0 | "+word+" 0 1"), api.ErrArg)
		noRead(t, dumpOf("$var wire 1 ! a $end", "0!", "#"+word+"/1!"), api.ErrVcd)
	}
}

// As many nets as there may be, each with its code, and one more.
func TestVc1ManyNets(t *testing.T) {
	for _, count := range []int{93, 94, 95, 188, 189, 4095, 4096} {
		w := waveOf(strings.Repeat("=0 ", count))
		for net := range count {
			w.List = append(w.List, api.Change{Time: 2, Net: net, Value: "1"})
		}
		last, _ := vcd.Code(count - 1)
		s := told(w)
		if !strings.HasSuffix(s, "\n1"+last+"\n") {
			t.Fatalf("%d: %s", count, brief(s))
		}
		writes(t, w, s)
		w.List = append(w.List, api.Change{Time: 3, Net: count, Value: "1"})
		noWrite(t, w, api.ErrArg)
		next, e := vcd.Code(count)
		if e != api.OK {
			next = "WK" // behind the last code that there is
		}
		noRead(t, s+"#3\n1"+next+"\n", api.ErrVcd)
		noRead(t, s+"#3\n0"+last+"!\n", api.ErrVcd)
	}
	noWrite(t, waveOf(strings.Repeat("=0 ", 4097)), api.ErrArg)
	s, _ := vcd.Write(waveOf(strings.Repeat("=0 ", 4096)))
	s = strings.Replace(s, "$upscope", "$var wire 1 WK _ $end\n$upscope", 1)
	noRead(t, s, api.ErrVcd)
	noRead(t, strings.Replace(s, "\n$end\n", "\n0WK\n$end\n", 1), api.ErrVcd)
}

// long is a waveform whose dump has just so many bytes, most of them those of changes.
func long(t *testing.T, count int) api.Wave {
	t.Helper()
	w := waveOf("n=0")
	left := count - len(told(w))
	for i := range left / len("#1000000/1!/") {
		w.List = append(w.List, api.Change{Time: 1000000 + i, Value: []string{"1", "0"}[i%2]})
	}
	w.Names[0] += strings.Repeat("n", count-len(told(w)))
	if n := len(told(w)); n != count {
		t.Fatalf("%d bytes, not %d", n, count)
	}
	return w
}

func TestVc1Long(t *testing.T) {
	for _, count := range []int{api.MaxOut - 2, api.MaxOut - 1, api.MaxOut} {
		w := long(t, count)
		writes(t, w, told(w))
		w.Names[0] += strings.Repeat("n", api.MaxOut-count)
		writes(t, w, told(w))
		w.Names[0] += "n"
		noWrite(t, w, api.ErrLong)
		noRead(t, told(w), api.ErrLong)
	}
	for _, count := range []int{api.MaxOut + 1, api.MaxOut + 2, 2 * api.MaxOut} {
		w := long(t, count)
		noWrite(t, w, api.ErrLong)
		noRead(t, told(w), api.ErrLong)
	}
}

// A dump may be too long by its nets alone, or by their first values.
func TestVc1LongNets(t *testing.T) {
	w := waveOf(strings.Repeat(strings.Repeat("n", 256)+"=0 ", 4096))
	noWrite(t, w, api.ErrLong)
	noRead(t, told(w), api.ErrLong)
	w = waveOf(strings.Repeat("n="+strings.Repeat("x", 256)+" ", 4096))
	noWrite(t, w, api.ErrLong)
	noRead(t, told(w), api.ErrLong)
	// What is refused is told ahead of what is too long.
	w.Names[4095] = "_"
	noWrite(t, w, api.ErrArg)
	w.Names[4095] = " "
	noWrite(t, w, api.ErrArg)
	w.Names[4095] = ""
	noWrite(t, w, api.ErrLong)
	w.List = []api.Change{{Time: 1, Value: w.First[0]}}
	noWrite(t, w, api.ErrArg)
}

// Bytes that are none of a dump: too long ones are told so.
func TestVc1LongBytes(t *testing.T) {
	for _, part := range []string{"\x00", " ", "\n", "$", "0!\n", "#", "#1\n", opening, "$var wire 1 ! a $end\n"} {
		s := strings.Repeat(part, api.MaxOut/len(part)+1)
		noRead(t, s[:api.MaxOut-1], api.ErrVcd)
		noRead(t, s[:api.MaxOut], api.ErrVcd)
		noRead(t, (s + s)[:api.MaxOut+1], api.ErrLong)
		noRead(t, s+s, api.ErrLong)
		inside := opening + "$var wire 1 ! a $end\n" + s
		noRead(t, inside[:api.MaxOut], api.ErrVcd)
		inside = dumpOf("$var wire 1 ! a $end", "0!", "#1/1!") + s
		noRead(t, inside[:api.MaxOut], api.ErrVcd)
	}
	noRead(t, opening+strings.Repeat(" ", api.MaxOut-len(opening)-1)+"\n", api.ErrVcd)
	noRead(t, dumpOf("$var wire 1 ! a $end", "0!", "#"+strings.Repeat("1", 1<<19)+"/1!"), api.ErrVcd)
	noRead(t, dumpOf("$var wire "+strings.Repeat("1", 1<<19)+" ! a $end", "0!", ""), api.ErrVcd)
	noRead(t, dumpOf("$var wire 1 "+strings.Repeat("!", 1<<19)+" a $end", "0"+strings.Repeat("!", 1<<18), ""), api.ErrVcd)
}
