package wave_test

import (
	"fmt"
	"silkworm/api"
	"silkworm/wave"
	"slices"
	"strconv"
	"strings"
	"testing"
)

const (
	least = -1 << 63
	most  = 1<<63 - 1
)

// waveOf is a waveform by a text: nets with their first values, and, behind |, changes: "a=x b=00 | 1 0 1, 1 1 11" is a with 1 and b with 11, both at 1.
func waveOf(text string) api.Wave {
	nets, list, _ := strings.Cut(text, "|")
	w := api.Wave{List: changes(list)}
	for _, net := range strings.Fields(nets) {
		name, first, _ := strings.Cut(net, "=")
		w.Names = append(w.Names, name)
		w.Wides = append(w.Wides, len(first))
		w.First = append(w.First, first)
	}
	return w
}

// changes is a list by a text: time, net and value of each one.
func changes(text string) []api.Change {
	var out []api.Change
	for _, part := range strings.Split(text, ",") {
		if words := strings.Fields(part); len(words) > 0 {
			out = append(out, api.Change{Time: number(words[0]), Net: number(words[1]), Value: words[2]})
		}
	}
	return out
}

func number(word string) int {
	n, e := strconv.Atoi(word)
	if e != nil {
		panic(word)
	}
	return n
}

// partsOf is lists of changes, with a / between two.
func partsOf(text string) [][]api.Change {
	var out [][]api.Change
	for _, part := range strings.Split(text, "/") {
		out = append(out, changes(part))
	}
	return out
}

// copied is a waveform in memory of its own.
func copied(w api.Wave) api.Wave {
	return api.Wave{Names: slices.Clone(w.Names), Wides: slices.Clone(w.Wides), First: slices.Clone(w.First), List: slices.Clone(w.List)}
}

func same(a, b api.Wave) bool {
	return slices.Equal(a.Names, b.Names) && slices.Equal(a.Wides, b.Wides) && slices.Equal(a.First, b.First) && slices.Equal(a.List, b.List)
}

func empty(w api.Wave) bool {
	return len(w.Names)+len(w.Wides)+len(w.First)+len(w.List) == 0
}

// brief is the beginning of what is told.
func brief(v any) string {
	text := fmt.Sprintf("%q", v)
	return text[:min(len(text), 600)]
}

// may tells that a waveform may be, for all calls.
func may(t *testing.T, w api.Wave) {
	t.Helper()
	if e := wave.Check(w); e != api.OK {
		t.Fatalf("%s: Check %d", brief(w), e)
	}
	cuts(t, w, most, w.List)
	if !wave.Begins(w, w) {
		t.Fatalf("%s does not begin itself", brief(w))
	}
	if _, e := wave.At(w, 0); e != api.OK {
		t.Fatalf("%s: At %d", brief(w), e)
	}
	bare := copied(w)
	bare.List = nil
	merges(t, bare, [][]api.Change{w.List}, w.List)
}

// mayNot tells that a waveform is refused by all calls, with nothing beside.
func mayNot(t *testing.T, w api.Wave) {
	t.Helper()
	if e := wave.Check(w); e != api.ErrArg {
		t.Fatalf("%s: Check %d", brief(w), e)
	}
	for _, time := range []int{0, 1, api.MaxTime, most, -1} {
		noCut(t, w, time)
		noAt(t, w, time)
	}
	bare := copied(w)
	bare.List = nil
	if wave.Begins(w, w) || wave.Begins(bare, w) || wave.Begins(w, bare) || wave.Begins(api.Wave{}, w) || wave.Begins(w, api.Wave{}) {
		t.Fatalf("%s: Begins", brief(w))
	}
	noMerge(t, w, nil)
	// Merged, changes may be that were only out of order.
	laid := copied(bare)
	laid.List = inOrder(single(w.List))
	for _, parts := range [][][]api.Change{{w.List}, single(w.List)} {
		if mayBe(laid) {
			merges(t, bare, parts, laid.List)
		} else {
			noMerge(t, bare, parts)
		}
	}
}

// single is a list in parts of one change each.
func single(list []api.Change) [][]api.Change {
	var out [][]api.Change
	for _, c := range list {
		out = append(out, []api.Change{c})
	}
	return out
}

func cuts(t *testing.T, w api.Wave, time int, list []api.Change) {
	t.Helper()
	want := copied(w)
	want.List = list
	if got, e := wave.Cut(w, time); e != api.OK || !same(got, want) {
		t.Fatalf("%s cut at %d: %s, %d", brief(w), time, brief(got), e)
	}
}

func noCut(t *testing.T, w api.Wave, time int) {
	t.Helper()
	if got, e := wave.Cut(w, time); e != api.ErrArg || !empty(got) {
		t.Fatalf("%s cut at %d: %s, %d", brief(w), time, brief(got), e)
	}
}

func has(t *testing.T, w api.Wave, time int, values ...string) {
	t.Helper()
	if got, e := wave.At(w, time); e != api.OK || !slices.Equal(got, values) {
		t.Fatalf("%s at %d: %s, %d, not %s", brief(w), time, brief(got), e, brief(values))
	}
}

func noAt(t *testing.T, w api.Wave, time int) {
	t.Helper()
	if got, e := wave.At(w, time); e != api.ErrArg || len(got) > 0 {
		t.Fatalf("%s at %d: %s, %d", brief(w), time, brief(got), e)
	}
}

func begins(t *testing.T, a, b api.Wave, want bool) {
	t.Helper()
	if got := wave.Begins(a, b); got != want {
		t.Fatalf("%s, %s: %v", brief(a), brief(b), got)
	}
}

func merges(t *testing.T, w api.Wave, parts [][]api.Change, list []api.Change) {
	t.Helper()
	want := copied(w)
	want.List = list
	if got, e := wave.Merge(w, parts); e != api.OK || !same(got, want) {
		t.Fatalf("%s with %s: %s, %d", brief(w), brief(parts), brief(got), e)
	}
}

func noMerge(t *testing.T, w api.Wave, parts [][]api.Change) {
	t.Helper()
	if got, e := wave.Merge(w, parts); e != api.ErrArg || !empty(got) {
		t.Fatalf("%s with %s: %s, %d", brief(w), brief(parts), brief(got), e)
	}
}

type dice uint32

func (d *dice) roll(n int) int {
	*d = *d*1664525 + 1013904223
	return int(*d>>8) % n
}

func (d *dice) vector(wide int) string {
	v := make([]byte, wide)
	for i := range v {
		v[i] = "01xz"[d.roll(4)]
	}
	return string(v)
}

func (d *dice) name() string {
	v := make([]byte, d.roll(6))
	for i := range v {
		v[i] = byte(33 + d.roll(94))
	}
	return string(v)
}

// wave is one that may be, by chance: of up to so many nets and changes.
func (d *dice) wave(nets, count int) api.Wave {
	var w api.Wave
	for range d.roll(nets + 1) {
		wide := []int{1, 1, 2, 7, 256}[d.roll(5)]
		w.Names = append(w.Names, d.name())
		w.Wides = append(w.Wides, wide)
		w.First = append(w.First, d.vector(wide))
	}
	values := slices.Clone(w.First)
	time := []int{0, 3, 1 << 40, api.MaxTime - 2*count}[d.roll(4)]
	for range d.roll(count + 1) {
		for net, wide := range w.Wides {
			if v := d.vector(wide); d.roll(2) == 0 && v != values[net] {
				values[net] = v
				w.List = append(w.List, api.Change{Time: time, Net: net, Value: v})
			}
		}
		time += 1 + d.roll(2)
	}
	return w
}

// deal lays changes in so many parts, and in each of them, by chance.
func (d *dice) deal(list []api.Change, count int) [][]api.Change {
	out := make([][]api.Change, count)
	for _, c := range list {
		k := d.roll(count)
		out[k] = slices.Insert(out[k], d.roll(len(out[k])+1), c)
	}
	return out
}
