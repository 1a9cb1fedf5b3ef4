package wave_test

import (
	"silkworm/api"
	"silkworm/conserv"
	"silkworm/elab"
	"silkworm/engine"
	"silkworm/lexer"
	"silkworm/lower"
	"silkworm/lp"
	"silkworm/part"
	"silkworm/syntax"
	"silkworm/warp"
	"silkworm/wave"
	"slices"
	"testing"
)

// each goes through all lists of so many numbers that are below an end.
func each(count, end int, do func(list []int)) {
	list := make([]int, count)
	for {
		do(list)
		at := 0
		for at < count && list[at] == end-1 {
			list[at] = 0
			at++
		}
		if at == count {
			return
		}
		list[at]++
	}
}

// follows tells of a waveform that may be what follows: each cut begins it, and has the values that are told of it, and its parts, by nets and otherwise, are merged to it.
func follows(t *testing.T, w api.Wave, d *dice) {
	t.Helper()
	may(t, w)
	times := []int{0, 1, api.MaxTime, most}
	for _, c := range w.List {
		times = append(times, c.Time, c.Time+1, max(c.Time-1, 0))
	}
	for _, time := range times {
		cuts(t, w, time, cutAt(w, time))
		has(t, w, time, valuesAt(w, time)...)
		cut, _ := wave.Cut(w, time)
		may(t, cut)
		begins(t, cut, w, true)
		begins(t, w, cut, len(cut.List) == len(w.List))
		if time > 0 {
			last, _ := wave.At(cut, most)
			has(t, w, time-1, last...)
		}
	}
	bare, _ := wave.Cut(w, 0)
	merges(t, bare, byNets(w), w.List)
	count := 1 + d.roll(5)
	merges(t, bare, d.deal(w.List, count), w.List)
}

// byNets is the changes of a waveform in parts: those of each net.
func byNets(w api.Wave) [][]api.Change {
	out := make([][]api.Change, len(w.Names))
	for _, c := range w.List {
		out[c.Net] = append(out[c.Net], c)
	}
	return out
}

// smallChanges is all changes of a few times, nets and values, also those that may not be.
func smallChanges() []api.Change {
	var out []api.Change
	for time := -1; time < 3; time++ {
		for net := -1; net < 3; net++ {
			for _, v := range []string{"0", "x", "00", ""} {
				out = append(out, api.Change{Time: time, Net: net, Value: v})
			}
		}
	}
	return out
}

// Wv1, Wv2: each short list of changes of few nets.
func TestWv2AllSmall(t *testing.T) {
	of, d := smallChanges(), dice(1)
	right, wrong := 0, 0
	for _, nets := range []string{"", "a=x", "a=0 b=xx", "a=x b=0"} {
		for count := range 4 {
			each(count, len(of), func(list []int) {
				w := waveOf(nets)
				for _, k := range list {
					w.List = append(w.List, of[k])
				}
				if mayBe(w) {
					right++
					follows(t, w, &d)
				} else if wrong++; count < 3 {
					mayNot(t, w)
				} else if e := wave.Check(w); e != api.ErrArg {
					t.Fatalf("%s: Check %d", brief(w), e)
				}
			})
		}
	}
	if right < 50 || wrong < 100000 {
		t.Errorf("%d may be, %d may not", right, wrong)
	}
}

// Wv1: each short list of changes that may be alone, in each two parts.
func TestWv1MergeAllSmall(t *testing.T) {
	of := changes("0 0 0, 0 0 1, 0 1 0, 0 1 1, 1 0 0, 1 0 1, 1 1 0, 1 1 1, 2 0 1")
	right, wrong := 0, 0
	for count := range 5 {
		each(count, len(of), func(list []int) {
			for cut := range count + 1 {
				var parts [2][]api.Change
				for i, k := range list {
					at := 0
					if i >= cut {
						at = 1
					}
					parts[at] = append(parts[at], of[k])
				}
				w := waveOf("a=x b=0")
				w.List = inOrder(parts[:])
				if mayBe(w) {
					right++
					merges(t, waveOf("a=x b=0"), parts[:], w.List)
				} else {
					wrong++
					noMerge(t, waveOf("a=x b=0"), parts[:])
				}
			}
		})
	}
	if right < 1000 || wrong < 10000 {
		t.Errorf("%d may be, %d may not", right, wrong)
	}
}

// Wv1: each two of small waveforms: whether one begins the other one.
func TestWv1BeginsAllSmall(t *testing.T) {
	of := changes("0 0 0, 0 1 1, 1 0 1, 1 1 0, 1 0 x")
	var all []api.Wave
	for _, nets := range []string{"a=x b=0", "a=z b=0", "a=x c=0", "a=x", "a=x b=00"} {
		for count := range 4 {
			each(count, len(of), func(list []int) {
				w := waveOf(nets)
				for _, k := range list {
					w.List = append(w.List, of[k])
				}
				all = append(all, w)
			})
		}
	}
	yes := 0
	for _, a := range all {
		for _, b := range all {
			want := mayBe(a) && mayBe(b) && beginning(a, b)
			begins(t, a, b, want)
			if want {
				yes++
			}
		}
	}
	if yes < 100 {
		t.Errorf("%d begin another one", yes)
	}
}

// Wv1, Wv2: made-up waveforms, and what becomes of them if something of them is another one.
func TestWv2MadeUp(t *testing.T) {
	d := dice(7)
	right, wrong := 0, 0
	for i := range 3000 {
		w := d.wave(1+i%9, i%12)
		if !mayBe(w) {
			t.Fatalf("a test that may not be: %s", brief(w))
		}
		follows(t, w, &d)
		for range 5 {
			bad := d.spoilt(w)
			if mayBe(bad) {
				right++
				follows(t, bad, &d)
				begins(t, w, bad, beginning(w, bad))
				begins(t, bad, w, beginning(bad, w))
			} else {
				wrong++
				mayNot(t, bad)
			}
		}
	}
	if right < 1000 || wrong < 1000 {
		t.Errorf("%d may be, %d may not", right, wrong)
	}
}

// spoilt is a waveform with another something, that may be or not.
func (d *dice) spoilt(w api.Wave) api.Wave {
	w = copied(w)
	if len(w.Names) > 0 && d.roll(3) == 0 {
		i := d.roll(len(w.Names))
		switch d.roll(4) {
		case 0:
			w.Names[i] += []string{"a", " ", "\x7f", "~"}[d.roll(4)]
		case 1:
			w.Wides[i] += d.roll(3) - 1
		case 2:
			w.First[i] = d.vector(1 + d.roll(3))
		default:
			w.First[i] = d.vector(w.Wides[i])
		}
		return w
	}
	if len(w.List) == 0 {
		w.List = changes("1 0 1")
		return w
	}
	i := d.roll(len(w.List))
	c := &w.List[i]
	switch d.roll(6) {
	case 0:
		c.Time += d.roll(5) - 2
	case 1:
		c.Net += d.roll(3) - 1
	case 2:
		c.Value = d.vector(max(1, len(c.Value)+d.roll(3)-1))
	case 3:
		w.List = slices.Delete(w.List, i, i+1)
	case 4:
		w.List = slices.Insert(w.List, i, w.List[d.roll(len(w.List))])
	default:
		c.Value = d.vector(len(c.Value))
	}
	return w
}

const source = "module m(input k, input [3:0] a, output reg [3:0] q, output y, output [3:0] z, output [4:0] s); " +
	"always @(posedge k) q <= a; assign #2 y = ^q; assign #3 z = ~a; assign #1 s = q + z; endmodule"

// netlist is one of several parts, with a stimulus.
func netlist(t *testing.T) (api.Netlist, []api.Change) {
	t.Helper()
	tokens, _ := lexer.Lex(source)
	modules, _ := syntax.Parse(tokens)
	f, why := elab.Build(modules, "m")
	l, e := lower.Run(f)
	if len(why) > 0 || e != api.OK || l.Ports != 6 {
		t.Fatal(why, e, l.Ports)
	}
	return l, changes("0 0 0, 0 1 0001, 2 0 1, 3 0 0, 3 1 1x10, 4 0 1, 5 1 zzzz, 7 0 0, 8 1 1000, 9 0 1, 9 1 0001")
}

// What the layers below tell may be; what they tell of a script that ends early begins the whole.
func TestWv2Simulated(t *testing.T) {
	l, stim := netlist(t)
	const horizon = 15
	whole, e := engine.Run(l, stim, horizon)
	if e != api.OK || len(whole.List) < 20 {
		t.Fatal(whole, e)
	}
	d := dice(3)
	follows(t, whole, &d)
	for n := 1; n < 5; n++ {
		p, _ := part.Run(l, n)
		shorter := 0
		for rounds := range 40 {
			told, _, e := conserv.Run(l, p, stim, horizon, slices.Repeat(conserv.Round(p), rounds))
			if e != api.OK || wave.Check(told) != api.OK || !wave.Begins(told, whole) {
				t.Fatal(n, rounds, told, e)
			}
			other, _, gvt, e := warp.Run(l, p, stim, horizon, api.MaxQueue, slices.Repeat(warp.Round(p), rounds))
			if e != api.OK || !wave.Begins(other, whole) {
				t.Fatal(n, rounds, other, e)
			}
			if rounds > 0 {
				cuts(t, whole, gvt[len(gvt)-1], other.List)
			}
			if !wave.Begins(whole, told) {
				shorter++
			}
		}
		if shorter == 0 || shorter == 40 {
			t.Errorf("%d of 40 are shorter", shorter)
		}
	}
}

// What processes tell, each of its nets, is merged to the waveform.
func TestWv2Processes(t *testing.T) {
	l, stim := netlist(t)
	const horizon = 15
	whole, _ := engine.Run(l, stim, horizon)
	p, _ := part.Run(l, 4)
	if p.N < 3 {
		t.Fatal(p)
	}
	var list []*lp.Process
	for k := range p.N {
		x, _ := lp.New(l, p, k, stim, horizon)
		list = append(list, x)
	}
	for time := range horizon + 1 {
		for _, x := range list {
			for next, ok := x.Next(); ok && next == time; next, ok = x.Next() {
				out, _ := x.Step()
				for _, e := range out {
					if e := list[p.Of[e.Node]].Take(e); e != api.OK {
						t.Fatal(e)
					}
				}
			}
		}
	}
	var parts [][]api.Change
	for _, x := range list {
		parts = append(parts, x.Changes(0))
	}
	bare, _ := wave.Cut(whole, 0)
	merges(t, bare, parts, whole.List)
}
