package wave_test

import (
	"silkworm/api"
	"silkworm/wave"
	"slices"
	"strings"
	"testing"
)

func TestWv1CheckLists(t *testing.T) {
	for _, w := range []api.Wave{
		{Names: []string{"a"}}, {Wides: []int{1}}, {First: []string{"0"}}, {Names: []string{"a"}, Wides: []int{1}}, {Names: []string{"a"}, First: []string{"0"}}, {Wides: []int{1}, First: []string{"0"}},
		{Names: []string{"a", "b"}, Wides: []int{1}, First: []string{"0"}}, {Names: []string{"a"}, Wides: []int{1, 1}, First: []string{"0"}}, {Names: []string{"a"}, Wides: []int{1}, First: []string{"0", "0"}},
		{Names: []string{"a"}, Wides: []int{1, 1}, First: []string{"0", "0"}}, {Names: []string{"a", "b"}, Wides: []int{1}, First: []string{"0", "0"}}, {Names: []string{"a", "b"}, Wides: []int{1, 1}, First: []string{"0"}},
		{Names: []string{""}, Wides: []int{0}, First: []string{""}}, {List: []api.Change{{}}}, {List: []api.Change{{Value: "0"}}},
	} {
		mayNot(t, w)
	}
}

func TestWv1CheckFirst(t *testing.T) {
	for _, first := range []string{"2", "X", "Z", "-", " ", "\x00", "\xff", "0 ", "é", "00", "", "000"} {
		for _, wide := range []int{0, 1, len(first)} {
			if wide > 0 && plain(first, wide) {
				continue
			}
			mayNot(t, api.Wave{Names: []string{"a"}, Wides: []int{wide}, First: []string{first}})
			mayNot(t, api.Wave{Names: []string{"b", "a"}, Wides: []int{1, wide}, First: []string{"0", first}})
			mayNot(t, api.Wave{Names: []string{"a", "b"}, Wides: []int{wide, 1}, First: []string{first, "0"}})
		}
	}
}

func TestWv1CheckChanges(t *testing.T) {
	for _, text := range []string{
		// nets
		"1 2 1", "1 -1 1", "1 9223372036854775807 1", "1 -9223372036854775808 1", "1 4294967296 1", "1 0 1, 2 2 1", "1 0 1, 2 -1 1",
		// times
		"-1 0 1", "-9223372036854775808 0 1", "4611686018427387904 0 1", "9223372036854775807 0 1", "1 0 1, 9223372036854775807 0 0", "-1 0 1, 1 0 0",
		// their order
		"2 0 1, 1 0 0", "2 0 1, 1 1 01", "2 1 01, 2 0 1", "2 0 1, 2 0 0", "2 0 1, 2 0 1", "1 0 1, 3 0 0, 2 0 1", "1 0 1, 2 1 01, 2 0 0", "1 0 1, 2 0 0, 2 1 01, 2 1 11", "4294967296 0 1, 1 0 0", "1 0 1, 0 0 x",
		// values that are not as wide, or none
		"1 0 01", "1 0 00", "1 1 1", "1 1 0", "1 1 011", "1 0 2", "1 0 X", "1 0 é", "1 1 0é", "1 1 1-", "1 0 1, 2 0 01", "1 0 1, 2 1 2",
		// values that are no others
		"1 0 x", "1 1 00", "0 0 x", "1 0 1, 2 0 1", "1 0 1, 2 1 01, 3 0 1", "1 0 1, 2 0 x, 3 0 x", "1 1 01, 2 1 11, 3 1 11", "1 0 0, 2 0 0",
	} {
		mayNot(t, waveOf("a=x b=00 | "+text))
	}
	w := waveOf("a=x b=00 | 1 0 1")
	w.List[0].Value = ""
	mayNot(t, w)
}

// Of what may be, each fault alone makes something that may not be.
func TestWv1CheckSpoilt(t *testing.T) {
	w := waveOf("a=x b=00 | 0 1 01, 1 0 1, 3 0 0, 3 1 0x, 5 1 00")
	may(t, w)
	for i := range w.List {
		for _, spoil := range []func(c *api.Change){
			func(c *api.Change) { c.Time = -1 }, func(c *api.Change) { c.Time = api.MaxTime + 1 }, func(c *api.Change) { c.Net = 2 }, func(c *api.Change) { c.Net = -1 },
			func(c *api.Change) { c.Net = 1 - c.Net }, func(c *api.Change) { c.Value += "0" }, func(c *api.Change) { c.Value = c.Value[1:] }, func(c *api.Change) { c.Value = "y" + c.Value[1:] },
			func(c *api.Change) { c.Value = valuesAt(w, c.Time-1)[c.Net] },
		} {
			bad := copied(w)
			spoil(&bad.List[i])
			mayNot(t, bad)
		}
	}
	for i := 1; i < len(w.List); i++ {
		bad := copied(w)
		bad.List[i], bad.List[i-1] = bad.List[i-1], bad.List[i]
		if wave.Check(bad) != api.ErrArg {
			t.Errorf("%d and %d the other way round", i-1, i)
		}
		bad = copied(w)
		bad.List = slices.Insert(bad.List, i, w.List[i])
		mayNot(t, bad)
	}
}

func TestWv1MergeWrong(t *testing.T) {
	w := waveOf("a=x b=00")
	for _, text := range []string{
		// one time and net twice, in one part and in two
		"1 0 1, 1 0 1", "1 0 1 / 1 0 1", "1 0 1, 1 0 0", "1 0 1 / 1 0 0", "1 0 1, 2 1 01 / 3 0 0, 2 1 11", "3 0 1, 2 1 01, 3 0 1",
		// no other value than it had, once all is in order
		"1 0 x", "1 0 1 / 2 0 1", "2 0 1 / 1 0 1", "1 0 1, 3 0 0 / 2 0 0", "1 0 1 / 2 1 00", "3 0 1, 2 0 0, 1 0 1 / 4 0 1",
		// no net, no time, no value
		"1 2 1", "/ 1 -1 1", "1 0 1 / -1 0 1", "4611686018427387904 0 1 /", "1 0 1 / 9223372036854775807 0 0", "1 0 1 / 2 0 00", "1 0 1 / 2 1 2", "1 0 1 / -9223372036854775808 1 01",
	} {
		noMerge(t, w, partsOf(text))
		noMerge(t, api.Wave{}, partsOf(text))
	}
	// One that has changes is refused, whatever joins.
	for _, text := range []string{"a=x b=00 | 1 0 1", "a=x b=00 | 1 0 1, 2 0 0"} {
		for _, parts := range [][][]api.Change{nil, {nil}, partsOf("3 0 1"), partsOf("3 0 x"), partsOf("0 1 01"), partsOf("1 0 1")} {
			noMerge(t, waveOf(text), parts)
		}
	}
	for _, bad := range []api.Wave{{Names: []string{"a"}}, waveOf("a=2"), waveOf("a="), waveOf("\x7f=0"), waveOf("a=0 " + strings.Repeat("n", 257) + "=0")} {
		noMerge(t, bad, nil)
		noMerge(t, bad, partsOf("1 0 1"))
	}
}

// room is a list with more behind its end, of which nobody may know.
func room[T any](list []T, more ...T) []T {
	return slices.Concat(list, more)[:len(list)]
}

// roomy is a waveform whose lists have room behind their ends, in which lies what would spoil it, or go on with it.
func roomy(w api.Wave, more ...api.Change) api.Wave {
	return api.Wave{Names: room(w.Names, "c", " "), Wides: room(w.Wides, 1, 0), First: room(w.First, "0", "2"), List: room(w.List, more...)}
}

// all is a waveform and what lies behind the ends of its lists.
func all(w api.Wave) api.Wave {
	return api.Wave{Names: w.Names[:cap(w.Names)], Wides: w.Wides[:cap(w.Wides)], First: w.First[:cap(w.First)], List: w.List[:cap(w.List)]}
}

func TestR3HandedIn(t *testing.T) {
	plainly := waveOf("a=x b=00 | 1 0 1, 3 0 0, 3 1 0x")
	for _, more := range [][]api.Change{changes("5 0 1"), changes("2 0 1, 2 0 1"), {{Time: -1, Net: -1}}} {
		w := roomy(plainly, more...)
		before := copied(all(w))
		may(t, w)
		cuts(t, w, 3, plainly.List[:1])
		cuts(t, w, 9, plainly.List)
		has(t, w, 9, "0", "0x")
		begins(t, w, plainly, true)
		begins(t, plainly, w, true)
		begins(t, waveOf("a=x b=00 | 1 0 1, 3 0 0, 3 1 0x, 5 0 1"), w, false)
		parts := [][]api.Change{room(changes("3 1 0x, 1 0 1"), more...), room(changes("3 0 0"), more...)}
		held := []([]api.Change){slices.Clone(parts[0][:cap(parts[0])]), slices.Clone(parts[1][:cap(parts[1])])}
		bare := roomy(waveOf("a=x b=00"), more...)
		merges(t, bare, room(parts, more), plainly.List)
		if !same(all(w), before) || !slices.Equal(parts[0][:cap(parts[0])], held[0]) || !slices.Equal(parts[1][:cap(parts[1])], held[1]) || !slices.Equal(all(bare).List[:len(more)], more) {
			t.Errorf("%s, not %s; %s", brief(all(w)), brief(before), brief(parts))
		}
	}
}

// spoil writes to all of a waveform, and behind the ends of its lists.
func spoil(w api.Wave) {
	w.Names, w.Wides, w.First, w.List = w.Names[:cap(w.Names)], w.Wides[:cap(w.Wides)], w.First[:cap(w.First)], w.List[:cap(w.List)]
	for i := range w.Names {
		w.Names[i] = "spoilt"
	}
	for i := range w.Wides {
		w.Wides[i] = -7
	}
	for i := range w.First {
		w.First[i] = "spoilt, too"
	}
	for i := range w.List {
		w.List[i] = api.Change{Time: -7, Net: -7, Value: "spoilt"}
	}
}

// R3: answers are new memory: writing to them, or to what was handed in, does not tell in the other.
func TestR3NewMemory(t *testing.T) {
	text := "a=x b=00 | 1 0 1, 3 0 0, 3 1 0x"
	for name, make := range map[string]func(w api.Wave) (api.Wave, api.Errno){
		"whole":  func(w api.Wave) (api.Wave, api.Errno) { return wave.Cut(w, 9) },
		"a part": func(w api.Wave) (api.Wave, api.Errno) { return wave.Cut(w, 3) },
		"none":   func(w api.Wave) (api.Wave, api.Errno) { return wave.Cut(w, 0) },
		"merged": func(w api.Wave) (api.Wave, api.Errno) {
			list := w.List
			w.List = nil
			return wave.Merge(w, [][]api.Change{list})
		},
		"merged of more": func(w api.Wave) (api.Wave, api.Errno) {
			list := w.List
			w.List = nil
			return wave.Merge(w, [][]api.Change{list[:1], list[1:2], list[2:]})
		},
	} {
		w := roomy(waveOf(text), changes("5 0 1")...)
		got, e := make(w)
		if e != api.OK {
			t.Fatal(name, e)
		}
		before := copied(all(w))
		spoil(got)
		if !same(all(w), before) {
			t.Errorf("%s: what was handed in is %s", name, brief(all(w)))
		}
		got, _ = make(w)
		kept := copied(got)
		spoil(w)
		if !same(got, kept) {
			t.Errorf("%s: what was answered is %s", name, brief(got))
		}
	}
	w := waveOf(text)
	values, _ := wave.At(w, 2)
	values[0], values[1] = "spoilt", "spoilt"
	has(t, w, 2, "1", "00")
	values, _ = wave.At(w, 2)
	spoil(w)
	if !slices.Equal(values, []string{"1", "00"}) {
		t.Error(values)
	}
}

// R3: nil and the empty list are the same.
func TestR3NilAndEmpty(t *testing.T) {
	list := []api.Wave{{}, {Names: []string{}, Wides: []int{}, First: []string{}, List: []api.Change{}}, {Wides: []int{}}, {List: []api.Change{}}}
	for _, a := range list {
		may(t, a)
		for _, b := range list {
			begins(t, a, b, true)
		}
	}
	a, b := waveOf("a=0"), waveOf("a=0")
	a.List, b.List = nil, []api.Change{}
	begins(t, a, b, true)
	begins(t, b, a, true)
	merges(t, b, nil, nil)
}

// R4: the same calls have the same answers, whatever was called in between.
func TestR4Again(t *testing.T) {
	w, bad := waveOf("a=x b=00 | 1 0 1, 3 0 0, 3 1 0x"), waveOf("a=x b=00 | 1 0 x")
	for range 3 {
		may(t, w)
		mayNot(t, bad)
		cuts(t, w, 2, w.List[:1])
		has(t, w, 2, "1", "00")
		noMerge(t, w, nil)
		noCut(t, w, -1)
	}
}
