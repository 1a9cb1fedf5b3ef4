package vcd_test

import (
	"fmt"
	"silkworm/api"
	"silkworm/vcd"
	"slices"
	"strconv"
	"strings"
	"testing"
)

const (
	least = -1 << 63
	most  = 1<<63 - 1

	opening = "$timescale 1 ns $end\n$scope module top $end\n"
	closing = "$upscope $end\n$enddefinitions $end\n$dumpvars\n"
)

// waveOf is a waveform by a text: nets with their first values, and, behind |, changes: "a=x b=00 | 1 0 1, 1 1 11" is a with 1 and b with 11, both at 1.
func waveOf(text string) api.Wave {
	var w api.Wave
	nets, list, _ := strings.Cut(text, "|")
	for _, net := range strings.Fields(nets) {
		name, first, _ := strings.Cut(net, "=")
		w.Names, w.Wides, w.First = append(w.Names, name), append(w.Wides, len(first)), append(w.First, first)
	}
	for _, part := range strings.Split(list, ",") {
		if words := strings.Fields(part); len(words) > 0 {
			w.List = append(w.List, api.Change{Time: number(words[0]), Net: number(words[1]), Value: words[2]})
		}
	}
	return w
}

func number(word string) int {
	n, e := strconv.Atoi(word)
	if e != nil {
		panic(word)
	}
	return n
}

// dumpOf is a dump's text, of which only what hangs on the waveform is told: lines with / between them, of the nets, their first values, and the changes.
func dumpOf(nets, first, changes string) string {
	return opening + lines(nets) + closing + lines(first) + "$end\n" + lines(changes)
}

func lines(text string) string {
	if text == "" {
		return ""
	}
	return strings.ReplaceAll(text, "/", "\n") + "\n"
}

// copied is a waveform in memory of its own.
func copied(w api.Wave) api.Wave {
	return api.Wave{Names: slices.Clone(w.Names), Wides: slices.Clone(w.Wides), First: slices.Clone(w.First), List: slices.Clone(w.List)}
}

func same(a, b api.Wave) bool {
	return slices.Equal(a.Names, b.Names) && slices.Equal(a.Wides, b.Wides) && slices.Equal(a.First, b.First) && slices.Equal(a.List, b.List)
}

// brief is the beginning and the end of what is told.
func brief(v any) string {
	text := fmt.Sprintf("%q", v)
	if len(text) > 1200 {
		text = text[:600] + " .. " + text[len(text)-600:]
	}
	return text
}

// writes tells that a waveform has a dump, which is read as it was.
func writes(t *testing.T, w api.Wave, want string) {
	t.Helper()
	if s, e := vcd.Write(w); e != api.OK || s != want {
		t.Fatalf("%s is written as %s, %d, not %s", brief(w), brief(s), e, brief(want))
	}
	reads(t, want, w)
}

func noWrite(t *testing.T, w api.Wave, want api.Errno) {
	t.Helper()
	if s, e := vcd.Write(w); e != want || s != "" {
		t.Fatalf("%s is written as %s, %d, not %d", brief(w), brief(s), e, want)
	}
}

func reads(t *testing.T, s string, want api.Wave) {
	t.Helper()
	if w, e := vcd.Read(s); e != api.OK || !same(w, want) {
		t.Fatalf("%s is read as %s, %d, not %s", brief(s), brief(w), e, brief(want))
	}
}

func noRead(t *testing.T, s string, want api.Errno) {
	t.Helper()
	if w, e := vcd.Read(s); e != want || !same(w, api.Wave{}) {
		t.Fatalf("%s is read as %s, %d, not %d", brief(s), brief(w), e, want)
	}
}

// looks tells of any bytes that they are read as the chapter's words, told once more, have it. The answer is whether they are a dump.
func looks(t *testing.T, s string) bool {
	t.Helper()
	w, is := meant(s)
	if !is {
		noRead(t, s, api.ErrVcd)
		return false
	}
	writes(t, w, s)
	return true
}

type dice uint32

func (d *dice) roll(n int) int {
	*d = *d*1664525 + 1013904223
	return int(*d>>8) % n
}

func (d *dice) text(of string, count int) string {
	v := make([]byte, count)
	for i := range v {
		v[i] = of[d.roll(len(of))]
	}
	return string(v)
}

// name is one that may be, none, one that stands for none, or one that a dump has its own use for.
func (d *dice) name() string {
	if d.roll(3) == 0 {
		return []string{"", "$end", "$upscope", "#5", "b0", "1!", "!", "__"}[d.roll(8)]
	}
	var visible []byte
	for b := byte('!'); b <= '~'; b++ {
		visible = append(visible, b)
	}
	name := d.text(string(visible), 1+d.roll(6))
	if name == "_" {
		return ""
	}
	return name
}

// wave is one that may be, by chance: of up to so many nets and times.
func (d *dice) wave(nets, times int) api.Wave {
	var w api.Wave
	for range d.roll(nets + 1) {
		wide := []int{1, 1, 2, 3, 256}[d.roll(5)]
		w.Names, w.Wides, w.First = append(w.Names, d.name()), append(w.Wides, wide), append(w.First, d.text("01xz", wide))
	}
	values := slices.Clone(w.First)
	time := []int{0, 3, 1 << 40, api.MaxTime - 2*times}[d.roll(4)]
	for range d.roll(times + 1) {
		for net, wide := range w.Wides {
			if v := d.text("01xz", wide); d.roll(2) == 0 && v != values[net] {
				values[net] = v
				w.List = append(w.List, api.Change{Time: time, Net: net, Value: v})
			}
		}
		time += 1 + d.roll(2)
	}
	return w
}
