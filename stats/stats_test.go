package stats_test

import (
	"math"
	"math/big"
	"silkworm/api"
	"silkworm/stats"
	"strings"
	"testing"
)

// The chapter's example, and a waveform of one change: there is nothing between changes.
func TestSt1None(t *testing.T) {
	none := stats.Stats{Rate: nan, Mean: nan, Spread: nan, Least: inf, Most: below}
	for _, w := range []api.Wave{{}, waveOf("a=0"), waveOf("a=x b=00"), at(1), at(5, 9)} {
		tells(t, w, -1, 0, none)
		if len(w.Names) > 0 {
			tells(t, w, 0, 0, none)
		}
	}
	none.Rate = 0
	for _, horizon := range []int{1, 7, 1 << 53, api.MaxTime} {
		tells(t, api.Wave{}, -1, horizon, none)
		tells(t, waveOf("a=0 b=1"), 1, horizon, none)
		tells(t, waveOf("a=0 b=1 | 0 0 1, 1 0 0"), 1, horizon, none)
	}
	tells(t, at(8, api.MaxTime), 0, 7, none)
}

func TestSt1One(t *testing.T) {
	one := stats.Stats{Count: 1, Rate: inf, Mean: nan, Spread: nan, Least: inf, Most: below}
	tells(t, at(0), 0, 0, one)
	tells(t, at(0), -1, 0, one)
	tells(t, at(0, 1, 2), -1, 0, one)
	one.Rate = 0.25
	tells(t, at(0), 0, 4, one)
	tells(t, at(3, 5), 0, 4, one)
	tells(t, at(4, 5), -1, 4, one)
	one.Rate = 0x1p-62
	tells(t, at(api.MaxTime), 0, api.MaxTime, one)
}

func TestSt1More(t *testing.T) {
	w := at(1, 3, 7)
	tells(t, w, 0, 10, stats.Stats{Count: 3, Rate: 0.3, Mean: 3, Spread: 1, Least: 2, Most: 4})
	tells(t, w, 0, 7, stats.Stats{Count: 3, Rate: 3 / 7.0, Mean: 3, Spread: 1, Least: 2, Most: 4})
	tells(t, w, 0, 6, stats.Stats{Count: 2, Rate: 2 / 6.0, Mean: 2, Spread: 0, Least: 2, Most: 2})
	tells(t, w, -1, 3, stats.Stats{Count: 2, Rate: 2 / 3.0, Mean: 2, Spread: 0, Least: 2, Most: 2})
	tells(t, w, -1, api.MaxTime, stats.Stats{Count: 3, Rate: 3 * 0x1p-62, Mean: 3, Spread: 1, Least: 2, Most: 4})
	tells(t, at(0, 1, 2, 4), 0, 4, stats.Stats{Count: 4, Rate: 1, Mean: 4 / 3.0, Spread: 2 / 9.0, Least: 1, Most: 2})
	tells(t, at(0, api.MaxTime), 0, api.MaxTime, stats.Stats{Count: 2, Rate: 0x1p-61, Mean: 1 << 62, Spread: 0, Least: 1 << 62, Most: 1 << 62})
}

// Of each net its own changes; of all of them also those at one time, with no time between.
func TestSt1Nets(t *testing.T) {
	w := waveOf("a=x b=00 c=1 | 1 0 1, 1 1 01, 3 0 0, 6 0 1, 6 1 1x, 7 1 zz")
	tells(t, w, 0, 8, stats.Stats{Count: 3, Rate: 0.375, Mean: 2.5, Spread: 0.25, Least: 2, Most: 3})
	tells(t, w, 1, 8, stats.Stats{Count: 3, Rate: 0.375, Mean: 3, Spread: 4, Least: 1, Most: 5})
	tells(t, w, 2, 8, stats.Stats{Rate: 0, Mean: nan, Spread: nan, Least: inf, Most: below})
	tells(t, w, -1, 8, stats.Stats{Count: 6, Rate: 0.75, Mean: 1.2, Spread: meant(w, -1, 8).Spread, Least: 0, Most: 3})
	tells(t, w, -1, 6, stats.Stats{Count: 5, Rate: 5 / 6.0, Mean: 1.25, Spread: 27 / 16.0, Least: 0, Most: 3})
	tells(t, w, -1, 1, stats.Stats{Count: 2, Rate: 2, Mean: 0, Spread: 0, Least: 0, Most: 0})
	tells(t, waveOf("a=0 b=0 | 0 0 1, 0 1 1"), -1, 0, stats.Stats{Count: 2, Rate: inf, Mean: 0, Spread: 0, Least: 0, Most: 0})
}

// The times between are whole numbers, then floats: two late times may be one float.
func TestSt1Late(t *testing.T) {
	const far = 1<<53 + 1
	tells(t, at(far, far+1), 0, far+1, stats.Stats{Count: 2, Rate: 2 / float64(far+1), Mean: 1, Spread: 0, Least: 1, Most: 1})
	tells(t, at(far, far+2), 0, far+2, stats.Stats{Count: 2, Rate: 2 / float64(far+2), Mean: 2, Spread: 0, Least: 2, Most: 2})
	tells(t, at(api.MaxTime-1, api.MaxTime), 0, api.MaxTime, stats.Stats{Count: 2, Rate: 0x1p-61, Mean: 1, Spread: 0, Least: 1, Most: 1})
	// A horizon is held against times as a whole number, too.
	tells(t, at(api.MaxTime-1, api.MaxTime), 0, api.MaxTime-1, stats.Stats{Count: 1, Rate: 0x1p-62, Mean: nan, Spread: nan, Least: inf, Most: below})
}

// Sums go from the first to the last one: what is small is lost beside what is large, and not when it comes first.
func TestSt1Sums(t *testing.T) {
	for _, c := range []struct {
		gaps []int
		sum  float64
	}{{[]int{1 << 53, 1, 1}, 1 << 53}, {[]int{1, 1, 1 << 53}, 1<<53 + 2}, {[]int{1, 1 << 53, 1}, 1 << 53}, {[]int{1 << 54, 3, 3, 3}, 1<<54 + 12}, {[]int{3, 3, 3, 1 << 54}, 1<<54 + 8}} {
		w := gapped(c.gaps...)
		got, e := stats.Of(w, 0, api.MaxTime)
		if e != api.OK || got.Mean != c.sum/float64(len(c.gaps)) {
			t.Errorf("%v: %v, %d", c.gaps, got.Mean, e)
		}
		tells(t, w, 0, api.MaxTime, meant(w, 0, api.MaxTime))
	}
}

// A product is rounded ahead of being added: rounded once for both, some of these would be others.
func TestSt1Products(t *testing.T) {
	d := dice(3)
	others, backward := 0, 0
	for range 2000 {
		var gaps []int
		for range 2 + d.roll(6) {
			gaps = append(gaps, 1+d.roll(1<<uint(2+d.roll(40))))
		}
		w := gapped(gaps...)
		want := meant(w, 0, api.MaxTime)
		tells(t, w, 0, api.MaxTime, want)
		once, back := 0.0, 0.0
		for i := range gaps {
			far := float64(gaps[i]) - want.Mean
			once = math.FMA(far, far, once)
			far = float64(gaps[len(gaps)-1-i]) - want.Mean
			back += float64(far * far)
		}
		if once/float64(len(gaps)) != want.Spread {
			others++
		}
		if back/float64(len(gaps)) != want.Spread {
			backward++
		}
	}
	if others < 100 || backward < 100 {
		t.Errorf("%d would be others, if rounded once; %d, if backward", others, backward)
	}
}

// Horizons and nets that just may be.
func TestSt1Edges(t *testing.T) {
	w := waveOf(strings.Repeat("a=0 ", 4096) + "| 0 4095 1, 2 0 1, 2 4095 x, " + "4611686018427387903 4095 z")
	tells(t, w, 4095, 2, stats.Stats{Count: 2, Rate: 1, Mean: 2, Spread: 0, Least: 2, Most: 2})
	tells(t, w, 4095, 1, stats.Stats{Count: 1, Rate: 1, Mean: nan, Spread: nan, Least: inf, Most: below})
	tells(t, w, 4095, api.MaxTime-1, stats.Stats{Count: 2, Rate: 0x1p-61, Mean: 2, Spread: 0, Least: 2, Most: 2})
	tells(t, w, 4095, api.MaxTime, meant(w, 4095, api.MaxTime))
	tells(t, w, -1, api.MaxTime, meant(w, -1, api.MaxTime))
	tells(t, w, 4094, api.MaxTime, meant(w, 4094, api.MaxTime))
	refuses(t, w, 4096, 2)
	many := make([]int, 100000)
	for i := range many {
		many[i] = 3 * i
	}
	tells(t, at(many...), 0, 3*99999, stats.Stats{Count: 100000, Rate: 100000 / 299997.0, Mean: 3, Spread: 0, Least: 3, Most: 3})
}

func TestSt2Ratio(t *testing.T) {
	for _, c := range []struct{ a, b, want float64 }{
		{6, 3, 2}, {1, 2, 0.5}, {-1, 4, -0.25}, {3, -4, -0.75}, {-9, -3, 3}, {1, 3, 1 / 3.0}, {2, 3, 2 / 3.0},
		{0, 0, nan}, {0, minus, nan}, {minus, 0, nan}, {minus, minus, nan},
		{1, 0, inf}, {1, minus, below}, {-1, 0, below}, {-1, minus, inf}, {math.SmallestNonzeroFloat64, 0, inf}, {math.MaxFloat64, minus, below},
		{inf, 0, inf}, {inf, minus, below}, {below, 0, below}, {below, minus, inf},
		{0, 1, 0}, {0, -1, minus}, {minus, 1, minus}, {minus, -1, 0}, {0, inf, 0}, {0, below, minus}, {minus, below, 0},
		{1, inf, 0}, {-1, inf, minus}, {1, below, minus}, {-1, below, 0}, {inf, 1, inf}, {inf, -1, below}, {below, 2, below}, {below, -2, inf},
		{inf, inf, nan}, {inf, below, nan}, {below, inf, nan}, {below, below, nan}, {nan, 1, nan}, {1, nan, nan}, {nan, nan, nan}, {nan, 0, nan}, {0, nan, nan}, {inf, nan, nan}, {nan, inf, nan},
		{math.MaxFloat64, 0.5, inf}, {math.MaxFloat64, -0.5, below}, {math.SmallestNonzeroFloat64, 2, 0}, {math.SmallestNonzeroFloat64, -2, minus}, {math.SmallestNonzeroFloat64, 1.5, math.SmallestNonzeroFloat64}, {0x1p-1022, 2, 0x1p-1023}, {math.MaxFloat64, math.MaxFloat64, 1},
	} {
		comesTo(t, c.a, c.b, c.want)
	}
}

func TestSt2Order(t *testing.T) {
	for _, c := range []struct {
		a, b float64
		want int
	}{
		{1, 2, -1}, {2, 1, 1}, {2, 2, 0}, {-1, 1, -1}, {-1, -2, 1}, {-2, -1, -1}, {-2, -2, 0}, {0, 0, 0}, {minus, minus, 0}, {minus, 0, -1}, {0, minus, 1},
		{0, math.SmallestNonzeroFloat64, -1}, {minus, math.SmallestNonzeroFloat64, -1}, {minus, -math.SmallestNonzeroFloat64, 1}, {0, -math.SmallestNonzeroFloat64, 1}, {minus, 1, -1}, {minus, -1, 1},
		{inf, inf, 0}, {below, below, 0}, {below, inf, -1}, {inf, below, 1}, {inf, math.MaxFloat64, 1}, {math.MaxFloat64, inf, -1}, {below, -math.MaxFloat64, -1}, {-math.MaxFloat64, below, 1},
		{nan, nan, 0}, {nan, inf, 1}, {inf, nan, -1}, {nan, below, 1}, {below, nan, -1}, {nan, 0, 1}, {minus, nan, -1}, {nan, math.MaxFloat64, 1}, {-math.MaxFloat64, nan, -1},
	} {
		stands(t, c.a, c.b, c.want)
	}
	for _, a := range nans() {
		for _, b := range nans() {
			stands(t, a, b, 0)
		}
		for _, b := range row() {
			stands(t, a, b, 1)
			stands(t, b, a, -1)
		}
	}
}

func TestSt2Mills(t *testing.T) {
	for _, c := range []struct {
		x       float64
		n, kind int
	}{
		{0.5, 500, 0}, {0, 0, 0}, {minus, 0, 0}, {1, 1000, 0}, {-1, -1000, 0}, {-3.0005, -3000, 0}, {3.0005, 3000, 0}, {3.0009999, 3000, 0}, {-3.0009999, -3000, 0},
		{0.0009, 0, 0}, {-0.0009, 0, 0}, {0.001, 1, 0}, {-0.001, -1, 0}, {0.0019, 1, 0}, {math.SmallestNonzeroFloat64, 0, 0}, {-math.SmallestNonzeroFloat64, 0, 0}, {1 / 3.0, 333, 0}, {-2 / 3.0, -666, 0}, {0.3, 300, 0}, {1e12, 1e15, 0}, {-5e9, -5e12, 0},
		{1e21, 0, 4}, {-1e21, 0, 4}, {1e13, 0, 4}, {-1e13, 0, 4}, {1 << 53, 0, 4}, {1 << 63, 0, 4}, {-1 << 63, 0, 4}, {1 << 64, 0, 4}, {math.MaxFloat64, 0, 4}, {-math.MaxFloat64, 0, 4}, {math.MaxFloat64 / 1000, 0, 4},
		{nan, 0, 1}, {inf, 0, 2}, {below, 0, 3},
	} {
		mills(t, c.x, c.n, c.kind)
	}
	for _, x := range nans() {
		mills(t, x, 0, 1)
	}
}

// What is times 1000 is rounded as floats are, ahead of all else: some that are a bit below a thousandth come to it.
func TestSt2MillsRounded(t *testing.T) {
	others := 0
	for _, c := range []struct {
		x float64
		n int
	}{{0.29, 290}, {-0.29, -290}, {0.57, 570}, {1.001, 1000}, {1.005, 1004}, {4.035, 4035}, {8.029, 8029}, {under(0.001), 0}, {under(1), 999}, {under(4), 3999}, {16.1, 16100}, {-64.3, -64300}} {
		mills(t, c.x, c.n, 0)
		y := new(big.Rat).Mul(exact(c.x), big.NewRat(1000, 1))
		if new(big.Int).Quo(y.Num(), y.Denom()).Int64() != int64(c.n) {
			others++
		}
	}
	if others < 3 {
		t.Errorf("%d would be others, if not rounded", others)
	}
}

// The last ones that have thousandths, and the first ones that have not.
func TestSt2MillsLast(t *testing.T) {
	x := 1 << 53 / 1000.0
	for times(x, 1000) <= 1<<53 {
		x = above(x)
	}
	last := under(x)
	if times(last, 1000) != 1<<53 {
		t.Fatal("a test without the edge: ", last)
	}
	mills(t, last, 1<<53, 0)
	mills(t, -last, -1<<53, 0)
	mills(t, x, 0, 4)
	mills(t, -x, 0, 4)
	n, kind := thousandths(under(last))
	mills(t, under(last), n, kind)
	if kind != 0 || n > 1<<53 || n < 1<<53-4 {
		t.Error(n, kind)
	}
}
