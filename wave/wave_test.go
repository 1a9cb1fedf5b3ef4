package wave_test

import (
	"silkworm/api"
	"silkworm/wave"
	"slices"
	"strings"
	"testing"
)

func TestWv1Check(t *testing.T) {
	for _, text := range []string{
		"", "|", "a=0", "a=x b=00", "a=z b=zz c=01xz", "=0", "=0 =0", "a=0 a=0", "_=1", "$end=1", "!=x ~=x", "u.a=1 u[3].b=x",
		"a=x | 0 0 0", "a=x | 0 0 0, 1 0 1, 2 0 0", "a=0 | 5 0 x, 6 0 z, 7 0 0", "a=x b=00 | 1 0 0, 1 1 11, 3 0 1",
		"a=0 b=0 c=0 | 3 0 1, 3 1 1, 3 2 1, 4 0 0, 4 2 0, 5 1 0", "a=0 b=0 | 3 1 1, 4 0 1", "a=0 b=1 | 3 0 1", "a=0 b=0 | 3 0 1, 4 1 1",
		"a=0x | 9 0 x0", "a=01 | 9 0 11", "a=xx | 9 0 xz",
		"a=0 | 4611686018427387903 0 1", "a=0 b=0 | 0 0 1, 4611686018427387902 1 1, 4611686018427387903 0 0, 4611686018427387903 1 0",
	} {
		may(t, waveOf(text))
	}
}

func TestWv1CheckNames(t *testing.T) {
	for b := range 256 {
		for _, name := range []string{string([]byte{byte(b)}), "a" + string([]byte{byte(b)}), string([]byte{byte(b)}) + "a", "a" + string([]byte{byte(b)}) + "a"} {
			w := api.Wave{Names: []string{"k", name}, Wides: []int{1, 1}, First: []string{"0", "0"}}
			if b >= 33 && b <= 126 {
				may(t, w)
			} else {
				mayNot(t, w)
			}
		}
	}
	for _, n := range []int{1, 64, 65, 255, 256} {
		may(t, api.Wave{Names: []string{strings.Repeat("n", n)}, Wides: []int{1}, First: []string{"0"}})
	}
	for _, n := range []int{257, 258, 512, 65536} {
		mayNot(t, api.Wave{Names: []string{strings.Repeat("n", n)}, Wides: []int{1}, First: []string{"0"}})
	}
	mayNot(t, api.Wave{Names: []string{"é"}, Wides: []int{1}, First: []string{"0"}})
	mayNot(t, api.Wave{Names: []string{"a", "b", "c d"}, Wides: []int{1, 1, 1}, First: []string{"0", "0", "0"}})
}

func TestWv1CheckWidths(t *testing.T) {
	for wide := 1; wide <= 256; wide++ {
		low, high := strings.Repeat("0", wide), strings.Repeat("1", wide)
		w := api.Wave{Names: []string{"a"}, Wides: []int{wide}, First: []string{low}}
		may(t, w)
		w.List = []api.Change{{Time: 1, Value: high}, {Time: 2, Value: low}}
		may(t, w)
		for _, other := range []int{wide - 1, wide + 1, 0, -wide, wide + 1<<32, wide + 256, least, most} {
			w.Wides[0] = other
			mayNot(t, w)
		}
	}
	for _, wide := range []int{0, 257, 258, 512, 1 << 16} {
		mayNot(t, api.Wave{Names: []string{"a"}, Wides: []int{wide}, First: []string{strings.Repeat("0", wide)}})
	}
}

func TestWv1CheckManyNets(t *testing.T) {
	w := waveOf(strings.Repeat("a=0 ", 4096))
	may(t, w)
	w.List = []api.Change{{Time: 3, Net: 0, Value: "1"}, {Time: 3, Net: 4095, Value: "1"}}
	may(t, w)
	w.List[1].Net = 4096
	mayNot(t, w)
	for _, count := range []int{4097, 4098, 8192} {
		mayNot(t, waveOf(strings.Repeat("a=0 ", count)))
	}
}

// Each change of each net at each time.
func TestWv1CheckManyChanges(t *testing.T) {
	w := waveOf(strings.Repeat("a=0 ", 300))
	for time := range 200 {
		for net := range 300 {
			w.List = append(w.List, api.Change{Time: time, Net: net, Value: []string{"1", "x", "z", "0"}[time%4]})
		}
	}
	may(t, w)
	for _, i := range []int{0, 1, 299, 300, 30000, 59998, 59999} {
		c := w.List[i]
		w.List[i].Value = []string{"0", "1", "x", "z"}[c.Time%4]
		if wave.Check(w) != api.ErrArg {
			t.Errorf("the change %d is none", i)
		}
		w.List[i].Value = "2"
		if wave.Check(w) != api.ErrArg {
			t.Errorf("the change %d has no value", i)
		}
		w.List[i] = c
	}
	merges(t, waveOf(strings.Repeat("a=0 ", 300)), single(w.List), w.List)
	back := single(w.List)
	slices.Reverse(back)
	merges(t, waveOf(strings.Repeat("a=0 ", 300)), back, w.List)
}

func TestWv1Example(t *testing.T) {
	w := waveOf("a=0 b=0 | 1 0 1, 3 0 0, 3 1 1, 5 1 0")
	cuts(t, w, 3, changes("1 0 1"))
}

func TestWv1Cut(t *testing.T) {
	w := waveOf("a=0 b=0 | 0 1 1, 1 0 1, 3 0 0, 3 1 0, 5 1 1")
	for time, count := range []int{0, 1, 2, 2, 4, 4, 5, 5} {
		cuts(t, w, time, w.List[:count])
	}
	for _, time := range []int{6, 1 << 32, api.MaxTime, api.MaxTime + 1, most} {
		cuts(t, w, time, w.List)
	}
	for _, time := range []int{-1, -2, -1 << 32, least} {
		noCut(t, w, time)
		noCut(t, api.Wave{}, time)
	}
	cuts(t, api.Wave{}, 0, nil)
	cuts(t, waveOf("a=0"), 0, nil)
	last := waveOf("a=0 | 4611686018427387902 0 1, 4611686018427387903 0 0")
	cuts(t, last, api.MaxTime-1, nil)
	cuts(t, last, api.MaxTime, last.List[:1])
	cuts(t, last, api.MaxTime+1, last.List)
}

func TestWv1At(t *testing.T) {
	w := waveOf("a=x b=00 c=z | 0 1 01, 1 0 1, 3 0 0, 3 1 0x, 5 1 00")
	for time, want := range []string{"x 01 z", "1 01 z", "1 01 z", "0 0x z", "0 0x z", "0 00 z", "0 00 z"} {
		has(t, w, time, strings.Fields(want)...)
	}
	for _, time := range []int{1 << 32, api.MaxTime - 1, api.MaxTime, api.MaxTime + 1, most - 1, most} {
		has(t, w, time, "0", "00", "z")
	}
	for _, time := range []int{-1, -2, -1 << 32, least} {
		noAt(t, w, time)
		noAt(t, api.Wave{}, time)
	}
	has(t, api.Wave{}, 0)
	has(t, waveOf("a=0 b=z"), 0, "0", "z")
	last := waveOf("a=0 | 4611686018427387902 0 1, 4611686018427387903 0 z")
	has(t, last, api.MaxTime-2, "0")
	has(t, last, api.MaxTime-1, "1")
	has(t, last, api.MaxTime, "z")
	has(t, last, most, "z")
}

func TestWv1Begins(t *testing.T) {
	whole := waveOf("a=x b=00 | 0 1 01, 1 0 1, 3 0 0, 3 1 0x, 5 1 00")
	for _, text := range []string{
		"a=x b=00", "a=x b=00 | 0 1 01", "a=x b=00 | 0 1 01, 1 0 1", "a=x b=00 | 0 1 01, 1 0 1, 3 0 0", "a=x b=00 | 0 1 01, 1 0 1, 3 0 0, 3 1 0x",
	} {
		begins(t, waveOf(text), whole, true)
		begins(t, whole, waveOf(text), false)
	}
	for _, text := range []string{
		"", "a=x", "b=00", "b=00 a=x", "a=x b=00 c=0", "a=x c=00", "c=x b=00", "=x b=00", "a=0 b=00", "a=x b=0x", "a=x b=000", "a=xx b=00", "a=x b=0",
		"a=x b=00 | 1 1 01", "a=x b=00 | 0 0 1", "a=x b=00 | 0 1 11", "a=x b=00 | 1 0 1", "a=x b=00 | 0 1 01, 1 0 0", "a=x b=00 | 0 1 01, 2 0 1", "a=x b=00 | 0 1 01, 1 1 11",
		"a=x b=00 | 0 1 01, 1 0 1, 3 1 0x", "a=x b=00 | 0 1 01, 1 0 1, 3 0 0, 3 1 0x, 5 1 01", "a=x b=00 | 0 1 01, 1 0 1, 3 0 0, 3 1 0x, 6 1 00", "a=x b=00 | 0 1 01, 1 0 1, 3 0 0, 3 1 0x, 5 1 00, 6 1 01",
	} {
		may(t, waveOf(text))
		begins(t, waveOf(text), whole, false)
	}
	begins(t, whole, whole, true)
	begins(t, copied(whole), whole, true)
	begins(t, api.Wave{}, api.Wave{}, true)
	begins(t, waveOf("=x =00"), whole, false)
	begins(t, whole, waveOf("=x =00 | 0 1 01, 1 0 1, 3 0 0, 3 1 0x, 5 1 00, 6 1 01"), false)
	begins(t, whole, waveOf("a=x b=00 | 0 1 01, 1 0 1, 3 0 0, 3 1 0x, 5 1 00, 5 1 01"), false)
}

func TestWv1Merge(t *testing.T) {
	w := waveOf("a=x b=00")
	list := changes("0 1 01, 1 0 1, 3 0 0, 3 1 0x, 5 1 00")
	for _, text := range []string{
		"0 1 01, 1 0 1, 3 0 0, 3 1 0x, 5 1 00", "5 1 00, 3 1 0x, 3 0 0, 1 0 1, 0 1 01", "1 0 1, 3 0 0 / 0 1 01, 3 1 0x, 5 1 00", "0 1 01, 3 1 0x, 5 1 00 / 1 0 1, 3 0 0",
		"/ 3 1 0x / / 5 1 00, 0 1 01 / 3 0 0 / 1 0 1 /", "5 1 00 / 3 1 0x / 3 0 0 / 1 0 1 / 0 1 01", "0 1 01, 1 0 1 / 3 0 0, 3 1 0x / 5 1 00",
	} {
		merges(t, w, partsOf(text), list)
	}
	for _, parts := range [][][]api.Change{nil, {}, {nil}, {{}}, {nil, {}, nil}, partsOf("/ /")} {
		merges(t, w, parts, nil)
		merges(t, api.Wave{}, parts, nil)
	}
	// What no part may be alone may be of all of them together.
	merges(t, waveOf("a=0"), partsOf("1 0 1, 3 0 1 / 2 0 0"), changes("1 0 1, 2 0 0, 3 0 1"))
	merges(t, waveOf("a=0"), partsOf("2 0 0 / 1 0 1"), changes("1 0 1, 2 0 0"))
	merges(t, waveOf("a=0 b=0"), partsOf("4611686018427387903 0 1, 0 1 1 / 4611686018427387903 1 0, 0 0 z"), changes("0 0 z, 0 1 1, 4611686018427387903 0 1, 4611686018427387903 1 0"))
}
