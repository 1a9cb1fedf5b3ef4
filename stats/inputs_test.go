package stats_test

import (
	"fmt"
	"math"
	"silkworm/api"
	"silkworm/stats"
	"slices"
	"strconv"
	"strings"
	"testing"
)

const (
	least = -1 << 63
	most  = 1<<63 - 1
)

var (
	nan   = math.NaN()
	inf   = math.Inf(1)
	below = math.Inf(-1)
	minus = math.Copysign(0, -1)
)

// waveOf is a waveform by a text: nets with their first values, and, behind |, changes: "a=x b=00 | 1 0 1, 1 1 11" is a with 1 and b with 11, both at 1.
func waveOf(text string) api.Wave {
	nets, list, _ := strings.Cut(text, "|")
	w := api.Wave{List: changes(list)}
	for _, net := range strings.Fields(nets) {
		name, first, _ := strings.Cut(net, "=")
		w.Names = append(w.Names, name)
		w.Wides = append(w.Wides, len(first))
		w.First = append(w.First, first)
	}
	return w
}

// changes is a list by a text: time, net and value of each one.
func changes(text string) []api.Change {
	var out []api.Change
	for _, part := range strings.Split(text, ",") {
		if words := strings.Fields(part); len(words) > 0 {
			out = append(out, api.Change{Time: number(words[0]), Net: number(words[1]), Value: words[2]})
		}
	}
	return out
}

func number(word string) int {
	n, e := strconv.Atoi(word)
	if e != nil {
		panic(word)
	}
	return n
}

// at is a waveform of one net that changes at these times.
func at(times ...int) api.Wave {
	w := waveOf("a=0")
	for i, time := range times {
		w.List = append(w.List, api.Change{Time: time, Value: []string{"1", "0"}[i%2]})
	}
	return w
}

// gapped is a waveform of one net that changes at 0, and then after each of these gaps.
func gapped(gaps ...int) api.Wave {
	times := []int{0}
	for i, gap := range gaps {
		times = append(times, times[i]+gap)
	}
	return at(times...)
}

func copied(w api.Wave) api.Wave {
	return api.Wave{Names: slices.Clone(w.Names), Wides: slices.Clone(w.Wides), First: slices.Clone(w.First), List: slices.Clone(w.List)}
}

// brief is the beginning of what is told.
func brief(v any) string {
	text := fmt.Sprintf("%q", v)
	return text[:min(len(text), 600)]
}

// alike tells whether two floats are the same to the last bit; what is no number is no number.
func alike(a, b float64) bool {
	return math.IsNaN(a) && math.IsNaN(b) || math.Float64bits(a) == math.Float64bits(b)
}

func equal(a, b stats.Stats) bool {
	return a.Count == b.Count && alike(a.Rate, b.Rate) && alike(a.Mean, b.Mean) && alike(a.Spread, b.Spread) && alike(a.Least, b.Least) && alike(a.Most, b.Most)
}

func tells(t *testing.T, w api.Wave, net, horizon int, want stats.Stats) {
	t.Helper()
	if got, e := stats.Of(w, net, horizon); e != api.OK || !equal(got, want) {
		t.Fatalf("%s, net %d up to %d: %v, %d, not %v", brief(w), net, horizon, got, e, want)
	}
}

func refuses(t *testing.T, w api.Wave, net, horizon int) {
	t.Helper()
	if got, e := stats.Of(w, net, horizon); e != api.ErrArg || got != (stats.Stats{}) {
		t.Fatalf("%s, net %d up to %d: %v, %d", brief(w), net, horizon, got, e)
	}
}

func comesTo(t *testing.T, a, b, want float64) {
	t.Helper()
	if got := stats.Ratio(a, b); !alike(got, want) {
		t.Fatalf("%v through %v: %v, not %v", a, b, got, want)
	}
}

func stands(t *testing.T, a, b float64, want int) {
	t.Helper()
	if got := stats.Order(a, b); got != want {
		t.Fatalf("%v and %v: %d, not %d", a, b, got, want)
	}
}

func mills(t *testing.T, x float64, n, kind int) {
	t.Helper()
	if gotN, gotKind := stats.Mills(x); gotN != n || gotKind != kind {
		t.Fatalf("thousandths of %v: %d, %d, not %d, %d", x, gotN, gotKind, n, kind)
	}
}

// above and under are the floats next to one.
func above(x float64) float64 { return math.Nextafter(x, inf) }
func under(x float64) float64 { return math.Nextafter(x, below) }

// nans are bits of several that are no numbers.
func nans() []float64 {
	var out []float64
	for _, bits := range []uint64{0x7ff8000000000001, 0x7ff8000000000000, 0xfff8000000000000, 0x7ff0000000000001, 0xfff0000000000001, 0x7fffffffffffffff, 0xffffffffffffffff} {
		out = append(out, math.Float64frombits(bits))
	}
	return out
}

// row is floats as they stand by Order, numbers alone, the ends and what is about them among them.
func row() []float64 {
	const last = 1 << 53 / 1000.0 // its thousandths are about the most
	ups := []float64{0, math.SmallestNonzeroFloat64, math.SmallestNonzeroFloat64 * 2, 0x1p-1022, 1e-300, 0.0009, under(0.001), 0.001, 0.0015, 0.1, 0.3, 0.5, under(1), 1, above(1), 1.5, 2, 3, 10, 999.9995, 1000, 1 << 31, 1 << 32, 1 << 43, under(under(last)), under(last), last, above(last), above(above(last)), 1 << 44, 1 << 52, 1<<53 - 1, 1 << 53, 1<<53 + 2, 1 << 62, 1 << 63, 1 << 64, 1e300, math.MaxFloat64 / 1000, math.MaxFloat64, inf}
	var out []float64
	for _, x := range slices.Backward(ups) {
		out = append(out, -x)
	}
	out[len(out)-1] = minus
	return append(out, ups...)
}

type dice uint64

func (d *dice) bits() uint64 {
	*d = *d*6364136223846793005 + 1442695040888963407
	x := uint64(*d)
	return x ^ x>>29
}

func (d *dice) roll(n int) int {
	return int(d.bits() >> 33 % uint64(n))
}

// float is one of any kind: any bits, a whole number, a part of one, or one of a few.
func (d *dice) float() float64 {
	switch d.roll(5) {
	case 0:
		return math.Float64frombits(d.bits())
	case 1:
		return float64(d.roll(2000) - 1000)
	case 2:
		return float64(d.roll(1<<30)-1<<29) / float64(1+d.roll(4000))
	case 3:
		return math.Ldexp(float64(int64(d.bits())), -d.roll(140))
	}
	list := append(row(), nans()...)
	return list[d.roll(len(list))]
}

// wave is one that may be, by chance: of up to so many nets and times.
func (d *dice) wave(nets, count int) api.Wave {
	w := waveOf(strings.Repeat("a=0 ", d.roll(nets+1)))
	values := slices.Clone(w.First)
	step := []int{2, 9, 1 << 20, 1 << 53, 1 << 58}[d.roll(5)]
	time := d.roll(step)
	for range d.roll(count + 1) {
		for net := range w.Names {
			if v := string("01xz"[d.roll(4)]); v != values[net] && time <= api.MaxTime {
				values[net] = v
				w.List = append(w.List, api.Change{Time: time, Net: net, Value: v})
			}
		}
		time += 1 + d.roll(step)
	}
	return w
}
