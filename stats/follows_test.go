package stats_test

import (
	"silkworm/api"
	"silkworm/elab"
	"silkworm/engine"
	"silkworm/lexer"
	"silkworm/lower"
	"silkworm/stats"
	"silkworm/syntax"
	"silkworm/wave"
	"slices"
	"testing"
)

// all is numbers at and about the ends, those that are none, and made-up ones.
func all() []float64 {
	out := append(row(), nans()...)
	d := dice(11)
	for range 300 {
		out = append(out, d.float())
	}
	return out
}

// St3: of floats in a row, each one stands ahead of each later one.
func TestSt3Row(t *testing.T) {
	list := append(row(), nan)
	for i, a := range list {
		for j, b := range list {
			want := 0
			if i < j {
				want = -1
			} else if i > j {
				want = 1
			}
			stands(t, a, b, want)
		}
	}
}

// St2, St3: each two of many floats: as the chapter's words say, and the other way round the other way round; what stands alike is the same.
func TestSt3Two(t *testing.T) {
	list := all()
	for _, a := range list {
		for _, b := range list {
			comesTo(t, a, b, through(a, b))
			stands(t, a, b, order(a, b))
			stands(t, b, a, -order(a, b))
			if (stats.Order(a, b) == 0) != alike(a, b) {
				t.Fatalf("%v and %v: %d", a, b, stats.Order(a, b))
			}
		}
	}
}

// St3: put in order, all floats stand in a row, in whatever order they came.
func TestSt3Sorted(t *testing.T) {
	list := all()
	slices.SortFunc(list, stats.Order)
	for i := range list {
		for _, b := range list[i:] {
			if stats.Order(list[i], b) > 0 {
				t.Fatalf("%v ahead of %v", list[i], b)
			}
		}
	}
	back := all()
	slices.Reverse(back)
	slices.SortFunc(back, stats.Order)
	if !slices.EqualFunc(list, back, alike) {
		t.Error("another row")
	}
}

// St3: along the row, thousandths do not go down; behind those that are too many there are none any more.
func TestSt3Thousandths(t *testing.T) {
	list := all()
	slices.SortFunc(list, stats.Order)
	last, kinds := -1<<53, []int{}
	count := 0
	for _, x := range list {
		n, kind := stats.Mills(x)
		mills(t, x, n, kind)
		if wantN, wantKind := thousandths(x); n != wantN || kind != wantKind {
			t.Fatalf("thousandths of %v: %d, %d, not %d, %d", x, n, kind, wantN, wantKind)
		}
		if len(kinds) == 0 || kinds[len(kinds)-1] != kind {
			kinds = append(kinds, kind)
		}
		if kind == 0 && n < last {
			t.Fatalf("%v has %d, one below it %d", x, n, last)
		}
		if kind == 0 {
			last = n
			count++
		} else if n != 0 {
			t.Fatalf("%v: %d beside kind %d", x, n, kind)
		}
	}
	if want := []int{3, 4, 0, 4, 2, 1}; !slices.Equal(kinds, want) || count < 100 {
		t.Errorf("%v, %d with thousandths", kinds, count)
	}
}

// St3: of each whole number of thousandths, and of the floats next to it.
func TestSt3Next(t *testing.T) {
	for n := -30000; n <= 30000; n++ {
		x := float64(n) / 1000
		list := []float64{under(x), x, above(x)}
		last := -1 << 53
		for _, x := range list {
			want, _ := thousandths(x)
			mills(t, x, want, 0)
			if want < last {
				t.Fatalf("%v has %d, one below it %d", x, want, last)
			}
			last = want
		}
	}
}

// St1: made-up waveforms, of each net and of all, up to horizons at and about all of their times.
func TestSt1MadeUp(t *testing.T) {
	d := dice(7)
	for i := range 1500 {
		w := d.wave(1+i%4, i%9)
		if wave.Check(w) != api.OK {
			t.Fatalf("a test that may not be: %s", brief(w))
		}
		horizons := []int{0, 1, 10, api.MaxTime}
		for _, c := range w.List {
			horizons = append(horizons, c.Time, c.Time+1, max(c.Time-1, 0))
		}
		for net := -1; net < len(w.Names); net++ {
			for _, horizon := range horizons {
				if horizon <= api.MaxTime {
					tells(t, w, net, horizon, meant(w, net, horizon))
				}
			}
		}
	}
}

// St1: all short lists of times of two nets.
func TestSt1AllSmall(t *testing.T) {
	const end = 5
	count := 0
	for set := range 1 << (2 * end) {
		w := waveOf("a=0 b=0")
		values := [2]string{"0", "0"}
		for k := range 2 * end {
			if set>>k&1 == 0 {
				continue
			}
			net := k % 2
			values[net] = map[string]string{"0": "1", "1": "0"}[values[net]]
			w.List = append(w.List, api.Change{Time: k / 2, Net: net, Value: values[net]})
		}
		for net := -1; net < 2; net++ {
			for horizon := range end + 1 {
				tells(t, w, net, horizon, meant(w, net, horizon))
				count++
			}
		}
	}
	if count != 1024*18 {
		t.Error(count)
	}
}

// St1: what a design tells: a net that turns at each second time.
func TestSt1Simulated(t *testing.T) {
	tokens, _ := lexer.Lex("module m(input a, output y); assign #2 y = ~a & ~y; endmodule")
	modules, _ := syntax.Parse(tokens)
	f, why := elab.Build(modules, "m")
	l, e := lower.Run(f)
	if len(why) > 0 || e != api.OK {
		t.Fatal(why, e)
	}
	w, e := engine.Run(l, changes("1 0 1, 5 0 0"), 20)
	if e != api.OK || len(w.List) < 8 {
		t.Fatal(brief(w), e)
	}
	for net := range w.Names {
		tells(t, w, net, 20, meant(w, net, 20))
	}
	if s, _ := stats.Of(w, 1, 20); s.Count != 8 || s.Least != 2 || s.Most != 4 {
		t.Error(s, brief(w))
	}
	tells(t, w, -1, 20, meant(w, -1, 20))
}
